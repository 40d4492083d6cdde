/- Proved: for any sign, two words, exponent, with or without more behind it, in each direction vernierlaw06.PartsRounds answers true: the number is rounded as the exact one is, with its flags. Conditions: none. -/
import Derived.Test.YtcgdiodpniiegaaScal
import Derived.Test.YtcgdiodpniiegaaPaRounds
namespace Go.Proofs.Ytcgdiodpniiegaa.partsRounds
open Go.ChangeShapes Go.WideShapes Go.ChangeAt Go.RowKit Go.Shelf

theorem step (b0 : Bool) (a1 : Nat) (a2 : Nat) (z3 : Int) (b4 : Bool) (z5 : Int) (W : World) (y1 : (a1 : Int) ≤ 18446744073709551615) (y2 : (a2 : Int) ≤ 18446744073709551615) (y3 : -9223372036854775808 ≤ z3 ∧ z3 < 9223372036854775808) (y5 : -9223372036854775808 ≤ z5 ∧ z5 < 9223372036854775808) :
    Calls Try.prog 4 #[.bool b0, .int .u64 (a1 : Int), .int .u64 (a2 : Int), .int .i64 z3, .bool b4, .int .i64 z5] W fun e W' => e = .returned (.bool true) ∧ Below W.heap.size W W' :=
  partsRounds_calls y1 y2 y3.1 (by omega)

section
variable (os : Os)
theorem laid_met : laidMet Try.prog Rows.partsRoundsRow.laid ((World.holding Try.prog os ⟨#[], #[], []⟩).forCall (fun _ _ => 0) ⟨#[], #[.bool false, .int .u64 0, .int .u64 0, .int .i64 0, .bool false, .int .i64 0], []⟩).memory :=
  laidMet_of_run' 8 (by kernel_rfl) (by kernel_rfl)
theorem reads {H : Type} (enc : TypeId × Value → H) : ∃ places, DataW.whole enc Try.prog ((World.holding Try.prog os ⟨#[], #[], []⟩).forCall (fun _ _ => 0) ⟨#[], #[.bool false, .int .u64 0, .int .u64 0, .int .i64 0, .bool false, .int .i64 0], []⟩).memory Try.f4.params.toList Rows.partsRoundsSpec.vars false (#[.bool false, .int .u64 0, .int .u64 0, .int .i64 0, .bool false, .int .i64 0] : Array Value).toList 8 = some ([.lit (.bool false), .lit (.int .u64 0), .lit (.int .u64 0), .lit (.int .i64 0), .lit (.bool false), .lit (.int .i64 0)], [], places) :=
  ⟨[], by kernel_rfl⟩
end

set_option maxRecDepth 100000 in
theorem lifted (os : Os) (started : os.Started) (H : Type) (enc : TypeId × Value → H) (F : Stop.Interp) :
    ReturnsInHanded {} Try.checked os 4 .any ((OpenSpec.ofChange Rows.partsRoundsSpec).preRow enc Try.prog Try.f4 Rows.partsRoundsRow.domain false Rows.partsRoundsRow.laid) (((OpenSpec.ofChange Rows.partsRoundsSpec).at F).post enc Try.prog Try.f4 false true false false) := by
  obtain ⟨places, hx⟩ := reads os enc
  refine returnsInHanded_of_row (C := Try.checked) (s := OpenSpec.ofChange Rows.partsRoundsSpec) own started (by kernel_rfl) Try.func4
    (witness_row_at (enc := enc) (C := Try.checked) false (World.holding Try.prog os ⟨#[], #[], []⟩) #[.bool false, .int .u64 0, .int .u64 0, .int .i64 0, .bool false, .int .i64 0] rfl (by kernel_rfl) (by kernel_rfl) (by kernel_rfl)
      (OpenSpec.preRow_of_cond 8 hx (by kernel_rfl) (fun k hk => by cases hk) (by kernel_rfl) (laid_met os))) ?_
  intro W base args ds gs before hval hW _ hcond hsz hL hsh _
  have hW' := hW
  have hlt : ∀ x ∈ before, x.block < W.heap.size := fun x hx => hW.lt x hx
  obtain ⟨p, q, hA0, hV, rfl, hfz, hnd⟩ := hW
  have hA : DataW.TrodAll enc Try.prog W 0 (fun _ => true) true Try.f4.params.toList args.toList ds p := hA0
  have hA1 := hA
  rw [Try.params4] at hA hval
  obtain ⟨v0, vs0, d0, ds0, p0, q0, hargs, rfl, rfl, h0, r0⟩ := trodAll_cons hA
  obtain ⟨v1, vs1, d1, ds1, p1, q1, rfl, rfl, rfl, h1, r1⟩ := trodAll_cons r0
  obtain ⟨v2, vs2, d2, ds2, p2, q2, rfl, rfl, rfl, h2, r2⟩ := trodAll_cons r1
  obtain ⟨v3, vs3, d3, ds3, p3, q3, rfl, rfl, rfl, h3, r3⟩ := trodAll_cons r2
  obtain ⟨v4, vs4, d4, ds4, p4, q4, rfl, rfl, rfl, h4, r4⟩ := trodAll_cons r3
  obtain ⟨v5, vs5, d5, ds5, p5, q5, rfl, rfl, rfl, h5, r5⟩ := trodAll_cons r4
  obtain ⟨rfl, rfl, rfl⟩ := trodAll_nil r5
  obtain rfl : args = #[v0, v1, v2, v3, v4, v5] := by cases args; simp_all
  obtain ⟨rfl, rfl⟩ := trodVars_none hV
  obtain ⟨b0, rfl, rfl⟩ := open_tf (hval 0 4 v0 rfl rfl) h0
  obtain ⟨a1, rfl, rfl, y1⟩ := open_w64 (hval 1 22 v1 rfl rfl) h1
  obtain ⟨a2, rfl, rfl, y2⟩ := open_w64 (hval 2 22 v2 rfl rfl) h2
  obtain ⟨z3, rfl, rfl, y3⟩ := open_i64 (hval 3 3 v3 rfl rfl) h3
  obtain ⟨b4, rfl, rfl⟩ := open_tf (hval 4 4 v4 rfl rfl) h4
  obtain ⟨z5, rfl, rfl, y5⟩ := open_i64 (hval 5 3 v5 rfl rfl) h5
  refine (step b0 a1 a2 z3 b4 z5 W y1 y2 y3 y5).mono ?_
  rintro e W' ⟨rfl, hb⟩
  simp only [List.append_nil] at hW' hlt
  exact ⟨_, rfl, _, [], _, [], _, [], hW', trodAll_cons_mk (shut_bool Try.underlying4 _) trodAll_mk0, all_keep hb (by rw [Try.params4]; intro t ht; simp only [List.mem_cons, List.not_mem_nil, or_false] at ht; rcases ht with rfl | rfl | rfl | rfl | rfl | rfl <;> first | exact ⟨readable_w64, typed_w64⟩ |  exact ⟨readable_bool, typed_bool⟩ | exact ⟨readable_int, typed_int⟩) hA1 (by simpa using hlt), rfl,
    World.keptBut_mono (fun x hx => ⟨hx, .inr (.inl (by simpa using hx))⟩) (hb.frame _), fun h => by cases h⟩

/-- the statement of the row -/
theorem proved : Rows.PartsRoundsSaid :=
  OpenClaim.holds_of_cond 4 Try.f4 rfl rfl rfl rfl rfl rfl rfl ⟨rfl, rfl, rfl, rfl, rfl⟩ rfl rfl rfl rfl rfl (by kernel_rfl) Try.func4 (by kernel_rfl)
    (of_decide_eq_true (by kernel_rfl)) (by unfold Func.isWrapper; first | (rw [if_pos (by decide +kernel)]; kernel_rfl) | (rw [if_neg (by decide +kernel)]; exact ⟨rfl, rfl⟩))
    (fun os started H enc _ F => by rw [OpenClaim.pre_eq_preRow]; exact lifted os started H enc F)
#print axioms proved
end Go.Proofs.Ytcgdiodpniiegaa.partsRounds
