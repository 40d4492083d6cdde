/- Proved: for any int, any dyadic number of bulk at most 1048576 and any direction vernierlaw13.FconvFrom answers true and leaves them as they were: an int's and a dyadic number's bits are the exact number, rounded. Conditions: the arguments' bulk is at most 1048576. -/
import Derived.Test.YtgobclmihppopabFvLift
import Derived.Test.YtgobclmihppopabFvFrom
namespace Go.Proofs.Ytgobclmihppopab.fconvFrom
open Go.ChangeShapes Go.WideShapes Go.ChangeAt Go.RowKit Go.Shelf

theorem step (z0 : Int) (s1 : Bool) (b1 : Option Addr) (m1 c1 : Nat) (z1 : Int) (x1 : List Nat) (z2 : Int) (W : World) (y0 : -9223372036854775808 ≤ z0 ∧ z0 < 9223372036854775808) (a1 : Arg W (.slice b1 m1 c1) x1) (l1 : Low 18446744073709551616 x1) (y1 : -9223372036854775808 ≤ z1 ∧ z1 < 9223372036854775808) (n1 : x1.length ≤ 1048576) (y2 : -9223372036854775808 ≤ z2 ∧ z2 < 9223372036854775808) :
    Calls Try.prog 11 #[.int .i64 z0, .agg #[.bool s1, .slice b1 m1 c1, .int .i64 z1], .int .i64 z2] W fun e W' => e = .returned (.bool true) ∧ Below W.heap.size W W' :=
  fconvFrom_calls (i := 1048576) ⟨x1, a1, l1, rfl, n1⟩ (by decide) y0.1 (by omega) y1.1 (by omega)

section
variable (os : Os)
theorem laid_met : laidMet Try.prog Rows.fconvFromUptoRow.laid ((World.holding Try.prog os ⟨#[], #[], []⟩).forCall (fun _ _ => 0) ⟨#[], #[.int .i64 0, .agg #[.bool false, .slice none 0 0, .int .i64 0], .int .i64 0], []⟩).memory :=
  laidMet_of_run' 8 (by kernel_rfl) (by kernel_rfl)
theorem reads {H : Type} (enc : TypeId × Value → H) : ∃ places, DataW.whole enc Try.prog ((World.holding Try.prog os ⟨#[], #[], []⟩).forCall (fun _ _ => 0) ⟨#[], #[.int .i64 0, .agg #[.bool false, .slice none 0 0, .int .i64 0], .int .i64 0], []⟩).memory Try.f11.params.toList Rows.fconvFromSpec.vars false (#[.int .i64 0, .agg #[.bool false, .slice none 0 0, .int .i64 0], .int .i64 0] : Array Value).toList 8 = some ([.lit (.int .i64 0), .agg [.lit (.bool false), .nil, .lit (.int .i64 0)], .lit (.int .i64 0)], [], places) :=
  ⟨[], by kernel_rfl⟩
end

set_option maxRecDepth 100000 in
theorem lifted (os : Os) (started : os.Started) (H : Type) (enc : TypeId × Value → H) (F : Stop.Interp) :
    ReturnsInHanded {} Try.checked os 11 .any ((Rows.OpenSpec.upto Rows.fconvFromSpec).preRow enc Try.prog Try.f11 Rows.fconvFromUptoRow.domain false Rows.fconvFromUptoRow.laid) (((Rows.OpenSpec.upto Rows.fconvFromSpec).at F).post enc Try.prog Try.f11 false true false false) := by
  obtain ⟨places, hx⟩ := reads os enc
  refine returnsInHanded_of_row (C := Try.checked) (s := Rows.OpenSpec.upto Rows.fconvFromSpec) own started (by kernel_rfl) Try.func11
    (witness_row_at (enc := enc) (C := Try.checked) false (World.holding Try.prog os ⟨#[], #[], []⟩) #[.int .i64 0, .agg #[.bool false, .slice none 0 0, .int .i64 0], .int .i64 0] rfl (by kernel_rfl) (by kernel_rfl) (by kernel_rfl)
      (OpenSpec.preRow_of_cond 8 hx (by kernel_rfl) (fun k hk => by cases hk; kernel_rfl) (by kernel_rfl) (laid_met os))) ?_
  intro W base args ds gs before hval hW _ hcond hsz hL hsh _
  have hpos := heap_pos hsh
  have hW' := hW
  have hlt : ∀ x ∈ before, x.block < W.heap.size := fun x hx => hW.lt x hx
  obtain ⟨p, q, hA0, hV, rfl, hfz, hnd⟩ := hW
  have hA : DataW.TrodAll enc Try.prog W 0 (fun _ => true) true Try.f11.params.toList args.toList ds p := hA0
  have hA1 := hA
  rw [Try.params11] at hA hval
  obtain ⟨v0, vs0, d0, ds0, p0, q0, hargs, rfl, rfl, h0, r0⟩ := trodAll_cons hA
  obtain ⟨v1, vs1, d1, ds1, p1, q1, rfl, rfl, rfl, h1, r1⟩ := trodAll_cons r0
  obtain ⟨v2, vs2, d2, ds2, p2, q2, rfl, rfl, rfl, h2, r2⟩ := trodAll_cons r1
  obtain ⟨rfl, rfl, rfl⟩ := trodAll_nil r2
  obtain rfl : args = #[v0, v1, v2] := by cases args; simp_all
  obtain ⟨rfl, rfl⟩ := trodVars_none hV
  obtain ⟨z0, rfl, rfl, y0⟩ := open_i64 (hval 0 3 v0 rfl rfl) h0
  obtain ⟨s1, b1, m1, c1, z1, x1, rfl, a1, l1, y1, e1⟩ := vopen_dyadic hpos (hval 1 48 v1 rfl rfl) h1
  obtain ⟨z2, rfl, rfl, y2⟩ := open_i64 (hval 2 3 v2 rfl rfl) h2
  have hk : Rows.uptoBulkAll ([_, d1, _] ++ []) ≤ 1048576 := of_decide_eq_true (hcond _ rfl)
  simp only [List.append_nil, Rows.uptoBulkAll] at hk
  have n1 : x1.length ≤ 1048576 := by
    rcases e1 with h | ⟨elems, spare, rfl, h⟩
    · rw [h]; simp
    · simp only [Rows.uptoBulk, Rows.uptoBulkAll] at hk; have := bulk_le elems spare; simp only [Rows.uptoBulk] at this; omega
  refine (step z0 s1 b1 m1 c1 z1 x1 z2 W y0 a1 l1 y1 n1 y2).mono ?_
  rintro e W' ⟨rfl, hb⟩
  simp only [List.append_nil] at hW' hlt
  exact ⟨_, rfl, _, [], _, [], _, [], hW', trodAll_cons_mk (shut_bool Try.underlying4 _) trodAll_mk0, all_keep hb (by rw [Try.params11]; intro t ht; simp only [List.mem_cons, List.not_mem_nil, or_false] at ht; rcases ht with rfl | rfl | rfl <;> first | exact ⟨vreadable_dyadic, vtyped_dyadic⟩ | exact ⟨readable_int, typed_int⟩) hA1 (by simpa using hlt), rfl,
    World.keptBut_mono (fun x hx => ⟨hx, .inr (.inl (by simpa using hx))⟩) (hb.frame _), fun h => by cases h⟩

/-- the statement of the row -/
theorem proved : Rows.FconvFromUptoSaid :=
  OpenClaim.holds_of_cond 11 Try.f11 rfl rfl rfl rfl rfl rfl rfl ⟨rfl, rfl, rfl, rfl, rfl⟩ rfl rfl rfl rfl rfl (by kernel_rfl) Try.func11 (by kernel_rfl)
    (of_decide_eq_true (by kernel_rfl)) (by unfold Func.isWrapper; first | (rw [if_pos (by decide +kernel)]; kernel_rfl) | (rw [if_neg (by decide +kernel)]; exact ⟨rfl, rfl⟩))
    (fun os started H enc _ F => by rw [OpenClaim.pre_eq_preRow]; exact lifted os started H enc F)
#print axioms proved
end Go.Proofs.Ytgobclmihppopab.fconvFrom
