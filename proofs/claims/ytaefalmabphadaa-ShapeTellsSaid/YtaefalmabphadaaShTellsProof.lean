/- Proved: for any two matrices and any two ints vernierlaw14.ShapeTells answers true and leaves them as they were: which matrices may be, which are finite, which are alike, and any place's word, are as the page says. Conditions: none. -/
import Derived.Test.YtaefalmabphadaaShLift
import Derived.Test.YtaefalmabphadaaShTells
namespace Go.Proofs.Ytaefalmabphadaa.shapeTells
open Go.ChangeShapes Go.WideShapes Go.ChangeAt Go.RowKit Go.Shelf

theorem step (R0 C0 : Int) (b0 : Option Addr) (m0 c0 : Nat) (x0 : List Nat) (R1 C1 : Int) (b1 : Option Addr) (m1 c1 : Nat) (x1 : List Nat) (z2 : Int) (z3 : Int) (W : World) (a0 : Arg W (.slice b0 m0 c0) x0) (l0 : Low 18446744073709551616 x0) (y0 : -9223372036854775808 ≤ R0 ∧ R0 < 9223372036854775808) (z0 : -9223372036854775808 ≤ C0 ∧ C0 < 9223372036854775808) (n0 : x0.length ≤ 17592186043904) (a1 : Arg W (.slice b1 m1 c1) x1) (l1 : Low 18446744073709551616 x1) (y1 : -9223372036854775808 ≤ R1 ∧ R1 < 9223372036854775808) (z1 : -9223372036854775808 ≤ C1 ∧ C1 < 9223372036854775808) (n1 : x1.length ≤ 17592186043904) (y2 : -9223372036854775808 ≤ z2 ∧ z2 < 9223372036854775808) (y3 : -9223372036854775808 ≤ z3 ∧ z3 < 9223372036854775808) :
    Calls Try.prog 3 #[.agg #[.int .i64 R0, .int .i64 C0, .slice b0 m0 c0], .agg #[.int .i64 R1, .int .i64 C1, .slice b1 m1 c1], .int .i64 z2, .int .i64 z3] W fun e W' => e = .returned (.bool true) ∧ Below W.heap.size W W' :=
  shapeTells_calls a0 a1 l0 (by omega) (by omega) y0 z0 y2 y3

section
variable (os : Os)
theorem laid_met : laidMet Try.prog Rows.shapeTellsRow.laid ((World.holding Try.prog os ⟨#[], #[], []⟩).forCall (fun _ _ => 0) ⟨#[], #[.agg #[.int .i64 0, .int .i64 0, .slice none 0 0], .agg #[.int .i64 0, .int .i64 0, .slice none 0 0], .int .i64 0, .int .i64 0], []⟩).memory :=
  laidMet_of_run' 8 (by kernel_rfl) (by kernel_rfl)
theorem reads {H : Type} (enc : TypeId × Value → H) : ∃ places, DataW.whole enc Try.prog ((World.holding Try.prog os ⟨#[], #[], []⟩).forCall (fun _ _ => 0) ⟨#[], #[.agg #[.int .i64 0, .int .i64 0, .slice none 0 0], .agg #[.int .i64 0, .int .i64 0, .slice none 0 0], .int .i64 0, .int .i64 0], []⟩).memory Try.f3.params.toList Rows.shapeTellsSpec.vars false (#[.agg #[.int .i64 0, .int .i64 0, .slice none 0 0], .agg #[.int .i64 0, .int .i64 0, .slice none 0 0], .int .i64 0, .int .i64 0] : Array Value).toList 8 = some ([.agg [.lit (.int .i64 0), .lit (.int .i64 0), .nil], .agg [.lit (.int .i64 0), .lit (.int .i64 0), .nil], .lit (.int .i64 0), .lit (.int .i64 0)], [], places) :=
  ⟨[], by kernel_rfl⟩
end

set_option maxRecDepth 100000 in
theorem lifted (os : Os) (started : os.Started) (H : Type) (enc : TypeId × Value → H) (F : Stop.Interp) :
    ReturnsInHanded {} Try.checked os 3 .any ((OpenSpec.ofChange Rows.shapeTellsSpec).preRow enc Try.prog Try.f3 Rows.shapeTellsRow.domain false Rows.shapeTellsRow.laid) (((OpenSpec.ofChange Rows.shapeTellsSpec).at F).post enc Try.prog Try.f3 false true false false) := by
  obtain ⟨places, hx⟩ := reads os enc
  refine returnsInHanded_of_row (C := Try.checked) (s := OpenSpec.ofChange Rows.shapeTellsSpec) own started (by kernel_rfl) Try.func3
    (witness_row_at (enc := enc) (C := Try.checked) false (World.holding Try.prog os ⟨#[], #[], []⟩) #[.agg #[.int .i64 0, .int .i64 0, .slice none 0 0], .agg #[.int .i64 0, .int .i64 0, .slice none 0 0], .int .i64 0, .int .i64 0] rfl (by kernel_rfl) (by kernel_rfl) (by kernel_rfl)
      (OpenSpec.preRow_of_cond 8 hx (by kernel_rfl) (fun k hk => by cases hk) (by kernel_rfl) (laid_met os))) ?_
  intro W base args ds gs before hval hW _ hcond hsz hL hsh _
  have hpos := heap_pos hsh
  have hW' := hW
  have hlt : ∀ x ∈ before, x.block < W.heap.size := fun x hx => hW.lt x hx
  obtain ⟨p, q, hA0, hV, rfl, hfz, hnd⟩ := hW
  have hA : DataW.TrodAll enc Try.prog W 0 (fun _ => true) true Try.f3.params.toList args.toList ds p := hA0
  have hA1 := hA
  rw [Try.params3] at hA hval
  obtain ⟨v0, vs0, d0, ds0, p0, q0, hargs, rfl, rfl, h0, r0⟩ := trodAll_cons hA
  obtain ⟨v1, vs1, d1, ds1, p1, q1, rfl, rfl, rfl, h1, r1⟩ := trodAll_cons r0
  obtain ⟨v2, vs2, d2, ds2, p2, q2, rfl, rfl, rfl, h2, r2⟩ := trodAll_cons r1
  obtain ⟨v3, vs3, d3, ds3, p3, q3, rfl, rfl, rfl, h3, r3⟩ := trodAll_cons r2
  obtain ⟨rfl, rfl, rfl⟩ := trodAll_nil r3
  obtain rfl : args = #[v0, v1, v2, v3] := by cases args; simp_all
  obtain ⟨rfl, rfl⟩ := trodVars_none hV
  obtain ⟨R0, C0, b0, m0, c0, x0, rfl, a0, l0, y0, z0, e0⟩ := open_mat hpos (hval 0 24 v0 rfl rfl) h0
  have n0 : x0.length ≤ 17592186043904 := by
    rcases e0 with h | ⟨elems, spare, rfl, h⟩
    · rw [h]; simp
    · have h2 := sized_mat (j := 0) hsz rfl rfl
      omega
  obtain ⟨R1, C1, b1, m1, c1, x1, rfl, a1, l1, y1, z1, e1⟩ := open_mat hpos (hval 1 24 v1 rfl rfl) h1
  have n1 : x1.length ≤ 17592186043904 := by
    rcases e1 with h | ⟨elems, spare, rfl, h⟩
    · rw [h]; simp
    · have h2 := sized_mat (j := 1) hsz rfl rfl
      omega
  obtain ⟨z2, rfl, rfl, y2⟩ := open_i64 (hval 2 3 v2 rfl rfl) h2
  obtain ⟨z3, rfl, rfl, y3⟩ := open_i64 (hval 3 3 v3 rfl rfl) h3
  refine (step R0 C0 b0 m0 c0 x0 R1 C1 b1 m1 c1 x1 z2 z3 W a0 l0 y0 z0 n0 a1 l1 y1 z1 n1 y2 y3).mono ?_
  rintro e W' ⟨rfl, hb⟩
  simp only [List.append_nil] at hW' hlt
  exact ⟨_, rfl, _, [], _, [], _, [], hW', trodAll_cons_mk (shut_bool Try.underlying4 _) trodAll_mk0, all_keep hb (by rw [Try.params3]; intro t ht; simp only [List.mem_cons, List.not_mem_nil, or_false] at ht; rcases ht with rfl | rfl | rfl | rfl <;> first | exact ⟨readable_mat, typed_mat⟩ | exact ⟨vreadable_dyadic, vtyped_dyadic⟩ | exact ⟨readable_int, typed_int⟩) hA1 (by simpa using hlt), rfl,
    World.keptBut_mono (fun x hx => ⟨hx, .inr (.inl (by simpa using hx))⟩) (hb.frame _), fun h => by cases h⟩

/-- the statement of the row -/
theorem proved : Rows.ShapeTellsSaid :=
  OpenClaim.holds_of_cond 3 Try.f3 rfl rfl rfl rfl rfl rfl rfl ⟨rfl, rfl, rfl, rfl, rfl⟩ rfl rfl rfl rfl rfl (by kernel_rfl) Try.func3 (by kernel_rfl)
    (of_decide_eq_true (by kernel_rfl)) (by unfold Func.isWrapper; first | (rw [if_pos (by decide +kernel)]; kernel_rfl) | (rw [if_neg (by decide +kernel)]; exact ⟨rfl, rfl⟩))
    (fun os started H enc _ F => by rw [OpenClaim.pre_eq_preRow]; exact lifted os started H enc F)
#print axioms proved
end Go.Proofs.Ytaefalmabphadaa.shapeTells
