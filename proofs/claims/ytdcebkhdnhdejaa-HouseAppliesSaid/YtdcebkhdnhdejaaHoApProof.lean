/- Proved: for any two lists of words and any number vernierlaw25.HouseApplies answers true and leaves the lists as they were: a mirror put to a column is number by number as the page says. Conditions: none. -/
import Derived.Test.YtdcebkhdnhdejaaRowLift
import Derived.Test.YtdcebkhdnhdejaaHoTells
import Derived.LaidLaws
import Derived.SizedLaws
namespace Go.Proofs.Ytdcebkhdnhdejaa.houseApplies
open Go.ChangeShapes Go.WideShapes Go.ChangeAt Go.RowKit Go.Shelf

theorem step {v u : Value} {vs xs : List Nat} {tau : Nat} {W : World} (hV : Arg W v vs) (hX : Arg W u xs) (hv : Low 18446744073709551616 vs) (hx : Low 18446744073709551616 xs) (hvn : vs.length ≤ 17592186044415) (hxn : xs.length ≤ 17592186044415) (ht : (tau : Int) ≤ 18446744073709551615) :
    Calls Try.prog 12 #[v, .int .u64 (tau : Int), u] W fun e W' => e = .returned (.bool true) ∧ Below W.heap.size W W' := by
  obtain ⟨va, vc, rfl⟩ := hV.slice
  obtain ⟨ua, uc, rfl⟩ := hX.slice
  exact houseApplies_calls hV hX hv hx hvn hxn ht

section
variable (os : Os)
theorem laid_met : laidMet Try.prog Rows.houseAppliesRow.laid ((World.holding Try.prog os ⟨#[], #[], []⟩).forCall (fun _ _ => 0) ⟨#[], #[.slice none 0 0, .int .u64 0, .slice none 0 0], []⟩).memory :=
  laidMet_of_run' 8 (by kernel_rfl) (by kernel_rfl)
theorem reads {H : Type} (enc : TypeId × Value → H) : ∃ places, DataW.whole enc Try.prog ((World.holding Try.prog os ⟨#[], #[], []⟩).forCall (fun _ _ => 0) ⟨#[], #[.slice none 0 0, .int .u64 0, .slice none 0 0], []⟩).memory Try.f12.params.toList Rows.houseAppliesSpec.vars false (#[.slice none 0 0, .int .u64 0, .slice none 0 0] : Array Value).toList 8 = some ([.nil, .lit (.int .u64 0), .nil], [], places) :=
  ⟨[], by kernel_rfl⟩
end

set_option maxRecDepth 100000 in
theorem lifted (os : Os) (started : os.Started) (H : Type) (enc : TypeId × Value → H) (F : Stop.Interp) :
    ReturnsInHanded {} Try.checked os 12 .any ((OpenSpec.ofChange Rows.houseAppliesSpec).preRow enc Try.prog Try.f12 Rows.houseAppliesRow.domain false Rows.houseAppliesRow.laid) (((OpenSpec.ofChange Rows.houseAppliesSpec).at F).post enc Try.prog Try.f12 false true false false) := by
  obtain ⟨places, hx⟩ := reads os enc
  refine returnsInHanded_of_row (C := Try.checked) (s := OpenSpec.ofChange Rows.houseAppliesSpec) own started (by kernel_rfl) Try.func12
    (witness_row_at (enc := enc) (C := Try.checked) false (World.holding Try.prog os ⟨#[], #[], []⟩) #[.slice none 0 0, .int .u64 0, .slice none 0 0] rfl (by kernel_rfl) (by kernel_rfl) (by kernel_rfl)
      (OpenSpec.preRow_of_cond 8 hx (by kernel_rfl) (fun k hk => by cases hk) (by kernel_rfl) (laid_met os))) ?_
  intro W base args ds gs before hval hW _ hcond hsz _ hsh _
  have hpos := heap_pos hsh
  have hW' := hW
  have hlt : ∀ x ∈ before, x.block < W.heap.size := fun x hx => hW.lt x hx
  obtain ⟨p, q, hA0, hV, rfl, hfz, hnd⟩ := hW
  have hA : DataW.TrodAll enc Try.prog W 0 (fun _ => true) true Try.f12.params.toList args.toList ds p := hA0
  have hA1 := hA
  rw [Try.params12] at hA hval
  obtain ⟨v0, vs0, d0, ds0, p0, q0, hargs, rfl, rfl, h0, r0⟩ := trodAll_cons hA
  obtain ⟨v1, vs1, d1, ds1, p1, q1, rfl, rfl, rfl, h1, r1⟩ := trodAll_cons r0
  obtain ⟨v2, vs2, d2, ds2, p2, q2, rfl, rfl, rfl, h2, r2⟩ := trodAll_cons r1
  obtain ⟨rfl, rfl, rfl⟩ := trodAll_nil r2
  obtain rfl : args = #[v0, v1, v2] := by cases args; simp_all
  obtain ⟨rfl, rfl⟩ := trodVars_none hV
  obtain ⟨x0, a0, l0, e0⟩ := open_arg hpos (hval 0 22 v0 rfl rfl) h0
  have n0 : x0.length ≤ 17592186043904 := by
    rcases e0 with h | ⟨elems, spare, rfl, h⟩
    · rw [h]; simp
    · have h2 : (elems.length + spare.length) * Try.prog.bytesOf 32 ≤ reachBytes := sized_slice (j := 0) hsz (t := 22) (e := 32) rfl rfl Try.underlying22
      rw [bytes_u64] at h2
      have h3 : reachBytes = 140737488351232 := rfl
      omega
  obtain ⟨a1, rfl, rfl, y1⟩ := open_w64 (hval 1 32 v1 rfl rfl) h1
  obtain ⟨x2, a2, l2, e2⟩ := open_arg hpos (hval 2 22 v2 rfl rfl) h2
  have n2 : x2.length ≤ 17592186043904 := by
    rcases e2 with h | ⟨elems, spare, rfl, h⟩
    · rw [h]; simp
    · have h2 : (elems.length + spare.length) * Try.prog.bytesOf 32 ≤ reachBytes := sized_slice (j := 2) hsz (t := 22) (e := 32) rfl rfl Try.underlying22
      rw [bytes_u64] at h2
      have h3 : reachBytes = 140737488351232 := rfl
      omega
  refine (step a0 a2 l0 l2 (by omega) (by omega) (by omega)).mono ?_
  rintro e W' ⟨rfl, hb⟩
  simp only [List.append_nil] at hW' hlt
  exact ⟨_, rfl, _, [], _, [], _, [], hW', trodAll_cons_mk (shut_bool Try.underlying4 _) trodAll_mk0, all_keep hb (by rw [Try.params12]; intro t ht; simp only [List.mem_cons, List.not_mem_nil, or_false] at ht; rcases ht with rfl | rfl | rfl <;> first | exact ⟨readable_u64s, typed_u64s⟩ | exact ⟨readable_w64, typed_w64⟩) hA1 (by simpa using hlt), rfl,
    World.keptBut_mono (fun x hx => ⟨hx, .inr (.inl (by simpa using hx))⟩) (hb.frame _), fun h => by cases h⟩

/-- the statement of the row -/
theorem proved : Rows.HouseAppliesSaid :=
  OpenClaim.holds_of_cond 12 Try.f12 rfl rfl rfl rfl rfl rfl rfl ⟨rfl, rfl, rfl, rfl, rfl⟩ rfl rfl rfl rfl rfl (by kernel_rfl) Try.func12 (by kernel_rfl)
    (of_decide_eq_true (by kernel_rfl)) (by unfold Func.isWrapper; first | (rw [if_pos (by decide +kernel)]; kernel_rfl) | (rw [if_neg (by decide +kernel)]; exact ⟨rfl, rfl⟩))
    (fun os started H enc _ F => by rw [OpenClaim.pre_eq_preRow]; exact lifted os started H enc F)
#print axioms proved
end Go.Proofs.Ytdcebkhdnhdejaa.houseApplies
