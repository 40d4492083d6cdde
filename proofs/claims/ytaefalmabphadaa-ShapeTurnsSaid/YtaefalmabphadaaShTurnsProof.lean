/- Proved: for any matrix vernierlaw14.ShapeTurns answers true and leaves it as it was: transposed, each number stands where row and column are changed; twice, it is the matrix. Conditions: none. -/
import Derived.Test.YtaefalmabphadaaShLift
import Derived.Test.YtaefalmabphadaaShTurns
namespace Go.Proofs.Ytaefalmabphadaa.shapeTurns
open Go.ChangeShapes Go.WideShapes Go.ChangeAt Go.RowKit Go.Shelf

theorem step (R0 C0 : Int) (b0 : Option Addr) (m0 c0 : Nat) (x0 : List Nat) (W : World) (a0 : Arg W (.slice b0 m0 c0) x0) (l0 : Low 18446744073709551616 x0) (y0 : -9223372036854775808 ≤ R0 ∧ R0 < 9223372036854775808) (z0 : -9223372036854775808 ≤ C0 ∧ C0 < 9223372036854775808) (n0 : x0.length ≤ 17592186043904) :
    Calls Try.prog 4 #[.agg #[.int .i64 R0, .int .i64 C0, .slice b0 m0 c0]] W fun e W' => e = .returned (.bool true) ∧ Below W.heap.size W W' :=
  shapeTurns_calls a0 l0 y0.1 y0.2 z0.1 z0.2

section
variable (os : Os)
theorem laid_met : laidMet Try.prog Rows.shapeTurnsRow.laid ((World.holding Try.prog os ⟨#[], #[], []⟩).forCall (fun _ _ => 0) ⟨#[], #[.agg #[.int .i64 0, .int .i64 0, .slice none 0 0]], []⟩).memory :=
  laidMet_of_run' 8 (by kernel_rfl) (by kernel_rfl)
theorem reads {H : Type} (enc : TypeId × Value → H) : ∃ places, DataW.whole enc Try.prog ((World.holding Try.prog os ⟨#[], #[], []⟩).forCall (fun _ _ => 0) ⟨#[], #[.agg #[.int .i64 0, .int .i64 0, .slice none 0 0]], []⟩).memory Try.f4.params.toList Rows.shapeTurnsSpec.vars false (#[.agg #[.int .i64 0, .int .i64 0, .slice none 0 0]] : Array Value).toList 8 = some ([.agg [.lit (.int .i64 0), .lit (.int .i64 0), .nil]], [], places) :=
  ⟨[], by kernel_rfl⟩
end

set_option maxRecDepth 100000 in
theorem lifted (os : Os) (started : os.Started) (H : Type) (enc : TypeId × Value → H) (F : Stop.Interp) :
    ReturnsInHanded {} Try.checked os 4 .any ((OpenSpec.ofChange Rows.shapeTurnsSpec).preRow enc Try.prog Try.f4 Rows.shapeTurnsRow.domain false Rows.shapeTurnsRow.laid) (((OpenSpec.ofChange Rows.shapeTurnsSpec).at F).post enc Try.prog Try.f4 false true false false) := by
  obtain ⟨places, hx⟩ := reads os enc
  refine returnsInHanded_of_row (C := Try.checked) (s := OpenSpec.ofChange Rows.shapeTurnsSpec) own started (by kernel_rfl) Try.func4
    (witness_row_at (enc := enc) (C := Try.checked) false (World.holding Try.prog os ⟨#[], #[], []⟩) #[.agg #[.int .i64 0, .int .i64 0, .slice none 0 0]] rfl (by kernel_rfl) (by kernel_rfl) (by kernel_rfl)
      (OpenSpec.preRow_of_cond 8 hx (by kernel_rfl) (fun k hk => by cases hk) (by kernel_rfl) (laid_met os))) ?_
  intro W base args ds gs before hval hW _ hcond hsz hL hsh _
  have hpos := heap_pos hsh
  have hW' := hW
  have hlt : ∀ x ∈ before, x.block < W.heap.size := fun x hx => hW.lt x hx
  obtain ⟨p, q, hA0, hV, rfl, hfz, hnd⟩ := hW
  have hA : DataW.TrodAll enc Try.prog W 0 (fun _ => true) true Try.f4.params.toList args.toList ds p := hA0
  have hA1 := hA
  rw [Try.params4] at hA hval
  obtain ⟨v0, vs0, d0, ds0, p0, q0, hargs, rfl, rfl, h0, r0⟩ := trodAll_cons hA
  obtain ⟨rfl, rfl, rfl⟩ := trodAll_nil r0
  obtain rfl : args = #[v0] := by cases args; simp_all
  obtain ⟨rfl, rfl⟩ := trodVars_none hV
  obtain ⟨R0, C0, b0, m0, c0, x0, rfl, a0, l0, y0, z0, e0⟩ := open_mat hpos (hval 0 24 v0 rfl rfl) h0
  have n0 : x0.length ≤ 17592186043904 := by
    rcases e0 with h | ⟨elems, spare, rfl, h⟩
    · rw [h]; simp
    · have h2 := sized_mat (j := 0) hsz rfl rfl
      omega
  refine (step R0 C0 b0 m0 c0 x0 W a0 l0 y0 z0 n0).mono ?_
  rintro e W' ⟨rfl, hb⟩
  simp only [List.append_nil] at hW' hlt
  exact ⟨_, rfl, _, [], _, [], _, [], hW', trodAll_cons_mk (shut_bool Try.underlying4 _) trodAll_mk0, all_keep hb (by rw [Try.params4]; intro t ht; simp only [List.mem_cons, List.not_mem_nil, or_false] at ht; rcases ht with rfl <;> first | exact ⟨readable_mat, typed_mat⟩ | exact ⟨vreadable_dyadic, vtyped_dyadic⟩ | exact ⟨readable_int, typed_int⟩) hA1 (by simpa using hlt), rfl,
    World.keptBut_mono (fun x hx => ⟨hx, .inr (.inl (by simpa using hx))⟩) (hb.frame _), fun h => by cases h⟩

/-- the statement of the row -/
theorem proved : Rows.ShapeTurnsSaid :=
  OpenClaim.holds_of_cond 4 Try.f4 rfl rfl rfl rfl rfl rfl rfl ⟨rfl, rfl, rfl, rfl, rfl⟩ rfl rfl rfl rfl rfl (by kernel_rfl) Try.func4 (by kernel_rfl)
    (of_decide_eq_true (by kernel_rfl)) (by unfold Func.isWrapper; first | (rw [if_pos (by decide +kernel)]; kernel_rfl) | (rw [if_neg (by decide +kernel)]; exact ⟨rfl, rfl⟩))
    (fun os started H enc _ F => by rw [OpenClaim.pre_eq_preRow]; exact lifted os started H enc F)
#print axioms proved
end Go.Proofs.Ytaefalmabphadaa.shapeTurns
