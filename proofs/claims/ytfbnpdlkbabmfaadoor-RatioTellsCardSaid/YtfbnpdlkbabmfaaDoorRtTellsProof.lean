/- Proved: for any two fractions vernierlaw05.RatioTells answers true and leaves them as they were: sums, differences, products, quotients and order are as they are, told without a common divisor. Beyond six words a list the law asks only that it comes to an end. What the row lists, math/bits.deBruijn64tab, is tied to the program's text by the card. Conditions: none besides. -/
import Derived.Test.YtfbnpdlkbabmfaaDoorRtLift
import Derived.Test.YtfbnpdlkbabmfaaDoorRtTells
namespace Go.Proofs.YtfbnpdlkbabmfaaDoor.ratioTells
open Go.ChangeShapes Go.WideShapes Go.ChangeAt Go.RowKit Go.Shelf

theorem step (s0 : Bool) (b0 : Option Addr) (m0 c0 : Nat) (x0 : List Nat) (f0 : Option Addr) (g0 k0 : Nat) (w0 : List Nat) (s1 : Bool) (b1 : Option Addr) (m1 c1 : Nat) (x1 : List Nat) (f1 : Option Addr) (g1 k1 : Nat) (w1 : List Nat) (W : World) (hT : TabOk W) (a0 : Arg W (.slice b0 m0 c0) x0) (l0 : Low 18446744073709551616 x0) (j0 : Arg W (.slice f0 g0 k0) w0) (o0 : Low 18446744073709551616 w0) (a1 : Arg W (.slice b1 m1 c1) x1) (l1 : Low 18446744073709551616 x1) (j1 : Arg W (.slice f1 g1 k1) w1) (o1 : Low 18446744073709551616 w1) :
    Calls Tryd.prog 3 #[.agg #[.bool s0, .slice b0 m0 c0, .slice f0 g0 k0], .agg #[.bool s1, .slice b1 m1 c1, .slice f1 g1 k1]] W fun e W' => e = .returned (.bool true) ∧ Below W.heap.size W W' :=
  tells5_walk (i := x0.length + w0.length + x1.length + w1.length) ⟨_, ⟨x0, a0, l0, rfl, by omega⟩, rfl⟩ ⟨w0, j0, o0, rfl, by omega⟩ ⟨_, ⟨x1, a1, l1, rfl, by omega⟩, rfl⟩ ⟨w1, j1, o1, rfl, by omega⟩ hT

section
variable (os : Os)
theorem laid_met : laidMet Tryd.prog Rows.ratioTellsRow.laid ((laidWorld os).forCall (fun _ _ => 0) ⟨#[], #[.agg #[.bool false, .slice none 0 0, .slice none 0 0], .agg #[.bool false, .slice none 0 0, .slice none 0 0]], []⟩).memory :=
  laidMet_of_run' 8 (by kernel_rfl) (by kernel_rfl)
theorem reads {H : Type} (enc : TypeId × Value → H) : ∃ places, DataW.whole enc Tryd.prog ((laidWorld os).forCall (fun _ _ => 0) ⟨#[], #[.agg #[.bool false, .slice none 0 0, .slice none 0 0], .agg #[.bool false, .slice none 0 0, .slice none 0 0]], []⟩).memory Tryd.f3.params.toList Rows.ratioTellsSpec.vars false (#[.agg #[.bool false, .slice none 0 0, .slice none 0 0], .agg #[.bool false, .slice none 0 0, .slice none 0 0]] : Array Value).toList 8 = some ([.agg [.agg [.lit (.bool false), .nil], .nil], .agg [.agg [.lit (.bool false), .nil], .nil]], [], places) :=
  ⟨[], by kernel_rfl⟩
end

set_option maxRecDepth 100000 in
theorem lifted (os : Os) (started : os.Started) (H : Type) (enc : TypeId × Value → H) (F : Stop.Interp) :
    ReturnsInHanded {} Tryd.checked os 3 .any ((OpenSpec.ofChange Rows.ratioTellsSpec).preRow enc Tryd.prog Tryd.f3 Rows.ratioTellsRow.domain false Rows.ratioTellsRow.laid) (((OpenSpec.ofChange Rows.ratioTellsSpec).at F).post enc Tryd.prog Tryd.f3 false true false false) := by
  obtain ⟨places, hx⟩ := reads os enc
  refine returnsInHanded_of_row (C := Tryd.checked) (s := OpenSpec.ofChange Rows.ratioTellsSpec) own started (by kernel_rfl) Tryd.func3
    (witness_row_at (enc := enc) (C := Tryd.checked) false (laidWorld os) #[.agg #[.bool false, .slice none 0 0, .slice none 0 0], .agg #[.bool false, .slice none 0 0, .slice none 0 0]] rfl (by kernel_rfl) (by kernel_rfl) (by kernel_rfl)
      (OpenSpec.preRow_of_cond 8 hx (by kernel_rfl) (fun k hk => by cases hk) (by kernel_rfl) (laid_met os))) ?_
  intro W base args ds gs before hval hW _ hcond hsz hL hsh _
  have hpos := heap_pos hsh
  have hW' := hW
  have hlt : ∀ x ∈ before, x.block < W.heap.size := fun x hx => hW.lt x hx
  obtain ⟨p, q, hA0, hV, rfl, hfz, hnd⟩ := hW
  have hA : DataW.TrodAll enc Tryd.prog W 0 (fun _ => true) true Tryd.f3.params.toList args.toList ds p := hA0
  have hA1 := hA
  rw [Tryd.params3] at hA hval
  obtain ⟨v0, vs0, d0, ds0, p0, q0, hargs, rfl, rfl, h0, r0⟩ := trodAll_cons hA
  obtain ⟨v1, vs1, d1, ds1, p1, q1, rfl, rfl, rfl, h1, r1⟩ := trodAll_cons r0
  obtain ⟨rfl, rfl, rfl⟩ := trodAll_nil r1
  obtain rfl : args = #[v0, v1] := by cases args; simp_all
  obtain ⟨rfl, rfl⟩ := trodVars_none hV
  obtain ⟨s0, b0, m0, c0, x0, f0, g0, k0, w0, rfl, a0, l0, j0, o0⟩ := open_ratio hpos (hval 0 26 v0 rfl rfl) h0
  obtain ⟨s1, b1, m1, c1, x1, f1, g1, k1, w1, rfl, a1, l1, j1, o1⟩ := open_ratio hpos (hval 1 26 v1 rfl rfl) h1
  refine (step s0 b0 m0 c0 x0 f0 g0 k0 w0 s1 b1 m1 c1 x1 f1 g1 k1 w1 W (tab_of_laid hL) a0 l0 j0 o0 a1 l1 j1 o1).mono ?_
  rintro e W' ⟨rfl, hb⟩
  simp only [List.append_nil] at hW' hlt
  exact ⟨_, rfl, _, [], _, [], _, [], hW', trodAll_cons_mk (shut_bool Tryd.underlying4 _) trodAll_mk0, all_keep hb (by rw [Tryd.params3]; intro t ht; simp only [List.mem_cons, List.not_mem_nil, or_false] at ht; rcases ht with rfl | rfl <;> first | exact ⟨readable_ratio, typed_ratio⟩ | exact ⟨readable_dyadic, typed_dyadic⟩ | exact ⟨readable_int, typed_int⟩) hA1 (by simpa using hlt), rfl,
    World.keptBut_mono (fun x hx => ⟨hx, .inr (.inl (by simpa using hx))⟩) (hb.frame _), fun h => by cases h⟩

/-- the statement of the row -/
theorem proved : Rows.RatioTellsSaid :=
  OpenClaim.holds_of_cond 3 Tryd.f3 rfl rfl rfl rfl rfl rfl rfl ⟨rfl, rfl, rfl, rfl, rfl⟩ rfl rfl rfl rfl rfl (by kernel_rfl) Tryd.func3 (by kernel_rfl)
    (of_decide_eq_true (by kernel_rfl)) (by unfold Func.isWrapper; first | (rw [if_pos (by decide +kernel)]; kernel_rfl) | (rw [if_neg (by decide +kernel)]; exact ⟨rfl, rfl⟩))
    (fun os started H enc _ F => by rw [OpenClaim.pre_eq_preRow]; exact lifted os started H enc F)
#print axioms proved
/-- the tied card: what the row lists is what the program's text lays -/
theorem card : Rows.RatioTellsCardSaid :=
  Claim7.holds_tied_plain_at .later [] [.data] true Rows.ratioTellsCard.stood.harness false
    proved (fun _ h => by cases h) (by kernel_rfl) (fun _ h => by cases h) ratioTells_row_tie rfl ⟨rfl, rfl⟩ (by kernel_rfl) rfl
    (fun f fn hf hfn => by
      obtain rfl : f = 3 := Option.some.inj ((show Tryd.prog.funcNamed "vernier/vernierlaw05.RatioTells" = some 3 by kernel_rfl).symm.trans hf) |>.symm
      obtain rfl : fn = Tryd.f3 := (Option.some.inj (Tryd.func3.symm.trans hfn)).symm
      exact ⟨by kernel_rfl, fun j t ht => by
        rw [Tryd.params3] at ht
        have hm : t ∈ [26, 26] := by simpa using Array.mem_of_getElem? ht
        have hall : ([26, 26].all fun u => !Tryd.prog.wantsStandIn u) = true := by kernel_rfl
        exact (show Tryd.prog.wantsStandIn t = false by simpa using List.all_eq_true.1 hall t hm)⟩)
    (by kernel_rfl)
#print axioms card
end Go.Proofs.YtfbnpdlkbabmfaaDoor.ratioTells
