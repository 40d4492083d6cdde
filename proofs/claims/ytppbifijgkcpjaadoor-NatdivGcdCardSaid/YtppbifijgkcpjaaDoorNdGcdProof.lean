/- Proved: for any two lists of words vernierlaw02.NatdivGcd answers true and leaves them as they were: the greatest common divisor divides both; what they are by it has none above 1; zeros at the lower end are counted (of lists of more than 12 words the law asks nothing). What the row lists, math/bits.deBruijn64tab, is tied to the program's text by the card. Conditions: none besides. -/
import Derived.Test.YtppbifijgkcpjaaDoorLift
import Derived.Test.YtppbifijgkcpjaaDoorNdGcd
import Derived.Test.YtppbifijgkcpjaaDoorCards
import Derived.Test.YtppbifijgkcpjaaDoorTie
import Derived.LaidLaws
import Derived.ChangeArms
import Derived.SevenTiedAt
namespace Go.Proofs.YtppbifijgkcpjaaDoor.natdivGcd
open Go.ChangeShapes Go.WideShapes Go.ChangeAt Go.RowKit Go.Shelf

/-- the settled world, with the table in its variable -/
noncomputable def laidWorld (os : Os) : World :=
  { World.holding Tryd.prog os ⟨#[], #[], []⟩ with heap := (World.holding Tryd.prog os ⟨#[], #[], []⟩).heap.modify 0 fun
      | .cells _ t frozen => .cells (Lib.deBruijn64tab.map fun (x : Nat) => Value.int .u8 (x : Int)).toArray t frozen
      | o => o }
theorem datum : (Rows.laid_math_bits_deBruijn64tab : DataW Unit) = .agg (Lib.deBruijn64tab.map fun (x : Nat) => .lit (.int .u8 (x : Int))) := by kernel_rfl
/-- what the condition gives the walk: the table lies in its variable -/
theorem tab_of_laid {W : World} (h : laidMetH Tryd.prog Rows.natdivGcdRow.laid W) : TabOk W := by
  have h' : laidMet Tryd.prog [("math/bits.deBruijn64tab", Rows.laid_math_bits_deBruijn64tab)] W := h
  obtain ⟨ps, ⟨g, t, cs, fuel, p, q, hg, ht, hvar, hd, _, _⟩, _⟩ := h'
  obtain rfl := Option.some.inj ((show Tryd.prog.globalNamed "math/bits.deBruijn64tab" = some 0 by kernel_rfl).symm.trans hg)
  obtain rfl := Option.some.inj ((show (Tryd.prog.globals[(0 : Nat)]?).map (·.type) = some 53 by kernel_rfl).symm.trans ht)
  have hT : Tryd.prog.underlying 53 = some (.array 64 5) := by kernel_rfl
  have hE : Tryd.prog.underlying 5 = some (.int .u8) := by kernel_rfl
  have hC : Tryd.prog.cellsOf 5 = 1 := by kernel_rfl
  rw [datum] at hd
  obtain ⟨xs, m, rfl, hx, hlen, hn, hel⟩ := DataW.trod_array hT hd
  have hx1 : xs.map (·.1) = Lib.deBruijn64tab.map fun (x : Nat) => (DataW.lit (.int .u8 (x : Int)) : DataW Unit) := by
    have := congrArg Prod.fst hx
    simpa using this.symm
  intro j hj
  have hj64 : j < 64 := hj
  have h1 := hel j hj64
  rw [hC, Nat.mul_one, List.getElem?_eq_getElem (show j < xs.length by omega)] at h1
  obtain ⟨n, e1, e2, _⟩ := DataW.trod_int hE h1
  have h2 := congrArg (fun l => l[j]?) hx1
  simp only [List.getElem?_map, List.getElem?_eq_getElem (show j < xs.length by omega), List.getElem?_eq_getElem hj, Option.map_some, e2, Option.some.injEq, DataW.lit.injEq, Lit.int.injEq, true_and] at h2
  have h3 : cs[j]? = some (.int .u8 n) := by
    have := congrArg (fun l => l[0]?) e1
    simpa [List.getElem?_take, List.getElem?_drop] using this
  rw [World.var?_cell hg hvar j, h3, h2, List.getD_eq_getElem?_getD, List.getElem?_eq_getElem hj]
  rfl
section
variable (os : Os)
theorem laid_met : laidMet Tryd.prog Rows.natdivGcdRow.laid ((laidWorld os).forCall (fun _ _ => 0) ⟨#[], #[.slice none 0 0, .slice none 0 0], []⟩).memory :=
  laidMet_of_run' 8 (by kernel_rfl) (by kernel_rfl)
theorem reads {H : Type} (enc : TypeId × Value → H) : ∃ places, DataW.whole enc Tryd.prog ((laidWorld os).forCall (fun _ _ => 0) ⟨#[], #[.slice none 0 0, .slice none 0 0], []⟩).memory Tryd.f3.params.toList Rows.natdivGcdSpec.vars false (#[.slice none 0 0, .slice none 0 0] : Array Value).toList 8 = some ([.nil, .nil], [], places) :=
  ⟨[], by kernel_rfl⟩
end

set_option maxRecDepth 100000 in
theorem lifted (os : Os) (started : os.Started) (H : Type) (enc : TypeId × Value → H) (F : Stop.Interp) :
    ReturnsInHanded {} Tryd.checked os 3 .any ((OpenSpec.ofChange Rows.natdivGcdSpec).preRow enc Tryd.prog Tryd.f3 Rows.natdivGcdRow.domain false Rows.natdivGcdRow.laid) (((OpenSpec.ofChange Rows.natdivGcdSpec).at F).post enc Tryd.prog Tryd.f3 false true false false) := by
  obtain ⟨places, hx⟩ := reads os enc
  refine returnsInHanded_of_row (C := Tryd.checked) (s := OpenSpec.ofChange Rows.natdivGcdSpec) own started (by kernel_rfl) Tryd.func3
    (witness_row_at (enc := enc) (C := Tryd.checked) false (laidWorld os) #[.slice none 0 0, .slice none 0 0] rfl (by kernel_rfl) (by kernel_rfl) (by kernel_rfl)
      (OpenSpec.preRow_of_cond 8 hx (by kernel_rfl) (fun k hk => by cases hk) (by kernel_rfl) (laid_met os))) ?_
  intro W base args ds gs before hval hW _ hcond hsz hL hsh _
  have hpos := heap_pos hsh
  have hW' := hW
  have hlt : ∀ x ∈ before, x.block < W.heap.size := fun x hx => hW.lt x hx
  obtain ⟨p, q, hA0, hV, rfl, hfz, hnd⟩ := hW
  have hA : DataW.TrodAll enc Tryd.prog W 0 (fun _ => true) true Tryd.f3.params.toList args.toList ds p := hA0
  have hA1 := hA
  rw [Tryd.params3] at hA hval
  obtain ⟨v0, vs0, d0, ds0, p0, q0, hargs, rfl, rfl, h0, r0⟩ := trodAll_cons hA
  obtain ⟨v1, vs1, d1, ds1, p1, q1, rfl, rfl, rfl, h1, r1⟩ := trodAll_cons r0
  obtain ⟨rfl, rfl, rfl⟩ := trodAll_nil r1
  obtain rfl : args = #[v0, v1] := by cases args; simp_all
  obtain ⟨rfl, rfl⟩ := trodVars_none hV
  obtain ⟨x0, a0, l0, e0⟩ := open_arg hpos (hval 0 22 v0 rfl rfl) h0
  obtain ⟨x1, a1, l1, e1⟩ := open_arg hpos (hval 1 22 v1 rfl rfl) h1
  have n0 : x0.length ≤ 17592186043904 := by
    rcases e0 with h | ⟨elems, spare, rfl, h⟩
    · rw [h]; simp
    · have h2 : (elems.length + spare.length) * Tryd.prog.bytesOf 34 ≤ reachBytes := sized_slice (j := 0) hsz (t := 22) (e := 34) rfl rfl Tryd.underlying22
      rw [bytes_u64] at h2
      have h3 : reachBytes = 140737488351232 := rfl
      omega
  have n1 : x1.length ≤ 17592186043904 := by
    rcases e1 with h | ⟨elems, spare, rfl, h⟩
    · rw [h]; simp
    · have h2 : (elems.length + spare.length) * Tryd.prog.bytesOf 34 ≤ reachBytes := sized_slice (j := 1) hsz (t := 22) (e := 34) rfl rfl Tryd.underlying22
      rw [bytes_u64] at h2
      have h3 : reachBytes = 140737488351232 := rfl
      omega
  refine (ndgcd_walk v0 x0 v1 x1 W (tab_of_laid hL) a0 n0 l0 a1 n1 l1).mono ?_
  rintro e W' ⟨rfl, hb⟩
  simp only [List.append_nil] at hW' hlt
  exact ⟨_, rfl, _, [], _, [], _, [], hW', trodAll_cons_mk (shut_bool Tryd.underlying4 _) trodAll_mk0, all_keep hb (by rw [Tryd.params3]; intro t ht; simp only [List.mem_cons, List.not_mem_nil, or_false] at ht; rcases ht with rfl | rfl <;> first | exact ⟨readable_u64s, typed_u64s⟩ | exact ⟨readable_whole, typed_whole⟩ | exact ⟨readable_int, typed_int⟩) hA1 (by simpa using hlt), rfl,
    World.keptBut_mono (fun x hx => ⟨hx, .inr (.inl (by simpa using hx))⟩) (hb.frame _), fun h => by cases h⟩

/-- the statement -/
theorem proved : Rows.NatdivGcdSaid :=
  OpenClaim.holds_of_cond 3 Tryd.f3 rfl rfl rfl rfl rfl rfl rfl ⟨rfl, rfl, rfl, rfl, rfl⟩ rfl rfl rfl rfl rfl (by kernel_rfl) Tryd.func3 (by kernel_rfl)
    (of_decide_eq_true (by kernel_rfl)) (by unfold Func.isWrapper; first | (rw [if_pos (by decide +kernel)]; kernel_rfl) | (rw [if_neg (by decide +kernel)]; exact ⟨rfl, rfl⟩))
    (fun os started H enc _ F => by rw [OpenClaim.pre_eq_preRow]; exact lifted os started H enc F)
#print axioms proved
/-- the tied card: what the row lists is what the program's text lays -/
theorem card : Rows.NatdivGcdCardSaid :=
  Claim7.holds_tied_plain_at .later [] [.data] true Rows.natdivGcdCard.stood.harness false
    proved (fun _ h => by cases h) (by kernel_rfl) (fun _ h => by cases h) natdivGcd_row_tie rfl ⟨rfl, rfl⟩ (by kernel_rfl) rfl
    (fun f fn hf hfn => by
      obtain rfl : f = 3 := Option.some.inj ((show Tryd.prog.funcNamed "vernier/vernierlaw02.NatdivGcd" = some 3 by kernel_rfl).symm.trans hf) |>.symm
      obtain rfl : fn = Tryd.f3 := (Option.some.inj (Tryd.func3.symm.trans hfn)).symm
      exact ⟨by kernel_rfl, fun j t ht => by
        rw [Tryd.params3] at ht
        have hm : t ∈ [22, 22] := by simpa using Array.mem_of_getElem? ht
        have hall : ([22, 22].all fun u => !Tryd.prog.wantsStandIn u) = true := by kernel_rfl
        exact (show Tryd.prog.wantsStandIn t = false by simpa using List.all_eq_true.1 hall t hm)⟩)
    (by kernel_rfl)
#print axioms card
end Go.Proofs.YtppbifijgkcpjaaDoor.natdivGcd
