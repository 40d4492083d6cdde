/- Proved: for any dyadic number of bulk at most 1048576 and any two ints vernierlaw04.DyadicPlain answers true and leaves them as they were: a number as it is told, without its sign, and one made of an int, are as of plain digits. What the row lists, math/bits.deBruijn64tab, is tied to the program's text by the card. Condition: the bulk. -/
import Derived.Test.YthipbonhkcjcfaaDoorDyLift
import Derived.Test.YthipbonhkcjcfaaDoorDyPlain
namespace Go.Proofs.YthipbonhkcjcfaaDoor.dyadicPlain
open Go.ChangeShapes Go.WideShapes Go.ChangeAt Go.RowKit Go.Shelf

theorem step (s0 : Bool) (b0 : Option Addr) (m0 c0 : Nat) (z0 : Int) (x0 : List Nat) (z1 : Int) (z2 : Int) (W : World) (hT : TabOk W) (a0 : Arg W (.slice b0 m0 c0) x0) (l0 : Low 18446744073709551616 x0) (y0 : -9223372036854775808 ≤ z0 ∧ z0 < 9223372036854775808) (n0 : x0.length ≤ 1048576) (y1 : -9223372036854775808 ≤ z1 ∧ z1 < 9223372036854775808) (y2 : -9223372036854775808 ≤ z2 ∧ z2 < 9223372036854775808) :
    Calls Tryd.prog 4 #[.agg #[.bool s0, .slice b0 m0 c0, .int .i64 z0], .int .i64 z1, .int .i64 z2] W fun e W' => e = .returned (.bool true) ∧ Below W.heap.size W W' :=
  plain_walk ⟨x0, a0, l0, rfl, n0⟩ hT y0.1 y0.2 y1.1 y1.2 (Lib.hid rfl)

section
variable (os : Os)
theorem laid_met : laidMet Tryd.prog Rows.dyadicPlainUptoRow.laid ((laidWorld os).forCall (fun _ _ => 0) ⟨#[], #[.agg #[.bool false, .slice none 0 0, .int .i64 0], .int .i64 0, .int .i64 0], []⟩).memory :=
  laidMet_of_run' 8 (by kernel_rfl) (by kernel_rfl)
theorem reads {H : Type} (enc : TypeId × Value → H) : ∃ places, DataW.whole enc Tryd.prog ((laidWorld os).forCall (fun _ _ => 0) ⟨#[], #[.agg #[.bool false, .slice none 0 0, .int .i64 0], .int .i64 0, .int .i64 0], []⟩).memory Tryd.f4.params.toList Rows.dyadicPlainSpec.vars false (#[.agg #[.bool false, .slice none 0 0, .int .i64 0], .int .i64 0, .int .i64 0] : Array Value).toList 8 = some ([.agg [.lit (.bool false), .nil, .lit (.int .i64 0)], .lit (.int .i64 0), .lit (.int .i64 0)], [], places) :=
  ⟨[], by kernel_rfl⟩
end

set_option maxRecDepth 100000 in
theorem lifted (os : Os) (started : os.Started) (H : Type) (enc : TypeId × Value → H) (F : Stop.Interp) :
    ReturnsInHanded {} Tryd.checked os 4 .any ((Rows.OpenSpec.upto Rows.dyadicPlainSpec).preRow enc Tryd.prog Tryd.f4 Rows.dyadicPlainUptoRow.domain false Rows.dyadicPlainUptoRow.laid) (((Rows.OpenSpec.upto Rows.dyadicPlainSpec).at F).post enc Tryd.prog Tryd.f4 false true false false) := by
  obtain ⟨places, hx⟩ := reads os enc
  refine returnsInHanded_of_row (C := Tryd.checked) (s := Rows.OpenSpec.upto Rows.dyadicPlainSpec) own started (by kernel_rfl) Tryd.func4
    (witness_row_at (enc := enc) (C := Tryd.checked) false (laidWorld os) #[.agg #[.bool false, .slice none 0 0, .int .i64 0], .int .i64 0, .int .i64 0] rfl (by kernel_rfl) (by kernel_rfl) (by kernel_rfl)
      (OpenSpec.preRow_of_cond 8 hx (by kernel_rfl) (fun k hk => by cases hk; kernel_rfl) (by kernel_rfl) (laid_met os))) ?_
  intro W base args ds gs before hval hW _ hcond hsz hL hsh _
  have hpos := heap_pos hsh
  have hW' := hW
  have hlt : ∀ x ∈ before, x.block < W.heap.size := fun x hx => hW.lt x hx
  obtain ⟨p, q, hA0, hV, rfl, hfz, hnd⟩ := hW
  have hA : DataW.TrodAll enc Tryd.prog W 0 (fun _ => true) true Tryd.f4.params.toList args.toList ds p := hA0
  have hA1 := hA
  rw [Tryd.params4] at hA hval
  obtain ⟨v0, vs0, d0, ds0, p0, q0, hargs, rfl, rfl, h0, r0⟩ := trodAll_cons hA
  obtain ⟨v1, vs1, d1, ds1, p1, q1, rfl, rfl, rfl, h1, r1⟩ := trodAll_cons r0
  obtain ⟨v2, vs2, d2, ds2, p2, q2, rfl, rfl, rfl, h2, r2⟩ := trodAll_cons r1
  obtain ⟨rfl, rfl, rfl⟩ := trodAll_nil r2
  obtain rfl : args = #[v0, v1, v2] := by cases args; simp_all
  obtain ⟨rfl, rfl⟩ := trodVars_none hV
  obtain ⟨s0, b0, m0, c0, z0, x0, rfl, a0, l0, y0, e0⟩ := open_dyadic hpos (hval 0 24 v0 rfl rfl) h0
  obtain ⟨z1, rfl, rfl, y1⟩ := open_i64 (hval 1 3 v1 rfl rfl) h1
  obtain ⟨z2, rfl, rfl, y2⟩ := open_i64 (hval 2 3 v2 rfl rfl) h2
  have hk : Rows.uptoBulkAll ([d0, _, _] ++ []) ≤ 1048576 := of_decide_eq_true (hcond _ rfl)
  simp only [List.append_nil, Rows.uptoBulkAll] at hk
  have n0 : x0.length ≤ 1048576 := by
    rcases e0 with h | ⟨elems, spare, rfl, h⟩
    · rw [h]; simp
    · simp only [Rows.uptoBulk, Rows.uptoBulkAll] at hk; have := bulk_le elems spare; simp only [Rows.uptoBulk] at this; omega
  refine (step s0 b0 m0 c0 z0 x0 z1 z2 W (tab_of_laid hL) a0 l0 y0 n0 y1 y2).mono ?_
  rintro e W' ⟨rfl, hb⟩
  simp only [List.append_nil] at hW' hlt
  exact ⟨_, rfl, _, [], _, [], _, [], hW', trodAll_cons_mk (shut_bool Tryd.underlying4 _) trodAll_mk0, all_keep hb (by rw [Tryd.params4]; intro t ht; simp only [List.mem_cons, List.not_mem_nil, or_false] at ht; rcases ht with rfl | rfl | rfl <;> first | exact ⟨readable_dyadic, typed_dyadic⟩ | exact ⟨readable_int, typed_int⟩) hA1 (by simpa using hlt), rfl,
    World.keptBut_mono (fun x hx => ⟨hx, .inr (.inl (by simpa using hx))⟩) (hb.frame _), fun h => by cases h⟩

/-- the statement of the row -/
theorem proved : Rows.DyadicPlainUptoSaid :=
  OpenClaim.holds_of_cond 4 Tryd.f4 rfl rfl rfl rfl rfl rfl rfl ⟨rfl, rfl, rfl, rfl, rfl⟩ rfl rfl rfl rfl rfl (by kernel_rfl) Tryd.func4 (by kernel_rfl)
    (of_decide_eq_true (by kernel_rfl)) (by unfold Func.isWrapper; first | (rw [if_pos (by decide +kernel)]; kernel_rfl) | (rw [if_neg (by decide +kernel)]; exact ⟨rfl, rfl⟩))
    (fun os started H enc _ F => by rw [OpenClaim.pre_eq_preRow]; exact lifted os started H enc F)
#print axioms proved
/-- the tied card: what the row lists is what the program's text lays -/
theorem card : Rows.DyadicPlainUptoCardSaid :=
  Claim7.holds_tied_plain_at .later [] [.data] true Rows.dyadicPlainUptoCard.stood.harness false
    proved (fun _ h => by cases h) (by kernel_rfl) (fun _ h => by cases h) dyadicPlainUpto_row_tie rfl ⟨rfl, rfl⟩ (by kernel_rfl) rfl
    (fun f fn hf hfn => by
      obtain rfl : f = 4 := Option.some.inj ((show Tryd.prog.funcNamed "vernier/vernierlaw04.DyadicPlain" = some 4 by kernel_rfl).symm.trans hf) |>.symm
      obtain rfl : fn = Tryd.f4 := (Option.some.inj (Tryd.func4.symm.trans hfn)).symm
      exact ⟨by kernel_rfl, fun j t ht => by
        rw [Tryd.params4] at ht
        have hm : t ∈ [24, 3, 3] := by simpa using Array.mem_of_getElem? ht
        have hall : ([24, 3, 3].all fun u => !Tryd.prog.wantsStandIn u) = true := by kernel_rfl
        exact (show Tryd.prog.wantsStandIn t = false by simpa using List.all_eq_true.1 hall t hm)⟩)
    (by kernel_rfl)
#print axioms card
end Go.Proofs.YthipbonhkcjcfaaDoor.dyadicPlain
