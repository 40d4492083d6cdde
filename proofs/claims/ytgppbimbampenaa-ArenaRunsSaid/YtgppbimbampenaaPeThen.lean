/- perm: Then; the law's is, alive. -/
import Derived.Test.YtgppbimbampenaaPeOf
namespace Go.Proofs.Ytgppbimbampenaa
open Go.RowKit Go.Shelf
/-- Then's error -/
def thenE (ps qs : List Int) : Int := if chkP ps ≠ 0 then chkP ps else if chkP qs ≠ 0 then chkP qs else if ps.length ≠ qs.length then 11 else 0
def thenL (ps qs : List Int) : List Int := if thenE ps qs = 0 then thenZ ps qs else []
theorem chkP_perm {ps : List Int} : chkP ps = 0 ↔ permB ps = true := by
  unfold chkP
  cases permB ps <;> simp
theorem chkP_ways (ps : List Int) : chkP ps = 0 ∨ chkP ps = 9 := by
  unfold chkP
  cases permB ps
  · right; rfl
  · left; rfl
/-- p[q[i]], the first k of them; the rest 0 -/
def thU (ps qs : List Int) (k : Nat) : List Int := (List.range qs.length).map fun i => if i < k then zat ps (zat qs i).toNat else 0
theorem thU_length (ps qs : List Int) (k : Nat) : (thU ps qs k).length = qs.length := by simp [thU]
theorem thU_at {ps qs : List Int} {k i : Nat} (h : i < qs.length) : zat (thU ps qs k) i = if i < k then zat ps (zat qs i).toNat else 0 := by
  unfold thU
  show (((List.range qs.length).map fun i => if i < k then zat ps (zat qs i).toNat else 0)[i]?).getD 0 = _
  rw [List.getElem?_map, List.getElem?_range h, Option.map_some, Option.getD_some]
theorem thU_zero (ps qs : List Int) : thU ps qs 0 = List.replicate qs.length 0 := by
  refine zat_ext (by rw [thU_length, List.length_replicate]) fun i hi => ?_
  rw [thU_length] at hi
  rw [thU_at hi, zat_replicate, if_neg (Nat.not_lt_zero i)]
theorem thU_succ {ps qs : List Int} {k : Nat} : (thU ps qs k).set k (zat ps (zat qs k).toNat) = thU ps qs (k + 1) := by
  refine zat_ext (by rw [List.length_set, thU_length, thU_length]) fun i hi => ?_
  rw [List.length_set, thU_length] at hi
  rw [zat_set, thU_length, thU_at hi, thU_at hi]
  by_cases e : i = k
  · rw [if_pos ⟨e, by omega⟩, if_pos (by omega), e]
  · rw [if_neg (fun q => e q.1)]
    by_cases e2 : i < k
    · rw [if_pos e2, if_pos (by omega)]
    · rw [if_neg e2, if_neg (by omega)]
theorem thU_all (ps qs : List Int) : thU ps qs qs.length = thenZ ps qs := by
  refine zat_ext (by rw [thU_length, thenZ_length]) fun i hi => ?_
  rw [thU_length] at hi
  rw [thU_at hi, thenZ_at hi, if_pos hi]
set_option maxRecDepth 100000 in
set_option maxHeartbeats 8000000 in
theorem perm_then {vp vq : Value} {ps qs : List Int} {w : World} (hP : ArgK .i64 w vp ps) (hQ : ArgK .i64 w vq qs) (hpn : ps.length ≤ 17592186044416) (hqn : qs.length ≤ 17592186044416) : Calls Try.prog 21 #[vp, vq] w fun e W' => ∃ u, e = .returned (.tuple #[u, .int .i64 (thenE ps qs)]) ∧ OwnK .i64 3 w.heap.size W' u (thenL ps qs) ∧ Below w.heap.size w W' := by
  have H1 := Lib.hid (fun (W : World) (h : Below w.heap.size w W) => perm_check (hP.behind h))
  have H2 := Lib.hid (fun (W : World) (h : Below w.heap.size w W) => perm_check (hQ.behind h))
  obtain ⟨S, a1, c1, hS, rfl, hc1, HA⟩ := hP.opened
  obtain ⟨T, a2, c2, hT, rfl, hc2, HB⟩ := hQ.opened
  have x0 : ∀ w : World, (Instr.index 91 (.agg #[.slice a1 ps.length c1, .slice a2 qs.length c2]) (.int .i64 0)).run Try.prog w = .ok (.slice a1 ps.length c1) w := fun _ => by kernel_rfl
  have x1 : ∀ w : World, (Instr.index 91 (.agg #[.slice a1 ps.length c1, .slice a2 qs.length c2]) (.int .i64 1)).run Try.prog w = .ok (.slice a2 qs.length c2) w := fun _ => by kernel_rfl
  have HE1 : Hid (chkP ps ≠ 0 → thenE ps qs = chkP ps ∧ thenL ps qs = []) := Lib.hid (fun h => by
    have : thenE ps qs = chkP ps := by unfold thenE; rw [if_pos h]
    exact ⟨this, by unfold thenL; rw [if_neg (by rw [this]; exact h)]⟩)
  have HE2 : Hid (chkP ps = 0 → chkP qs ≠ 0 → thenE ps qs = chkP qs ∧ thenL ps qs = []) := Lib.hid (fun h h' => by
    have : thenE ps qs = chkP qs := by unfold thenE; rw [if_neg (by simp [h]), if_pos h']
    exact ⟨this, by unfold thenL; rw [if_neg (by rw [this]; exact h')]⟩)
  have HE3 : Hid (chkP ps = 0 → chkP qs = 0 → ps.length ≠ qs.length → thenE ps qs = 11 ∧ thenL ps qs = []) := Lib.hid (fun h h' h3 => by
    have : thenE ps qs = 11 := by unfold thenE; rw [if_neg (by simp [h]), if_neg (by simp [h']), if_pos h3]
    exact ⟨this, by unfold thenL; rw [if_neg (by rw [this]; decide)]⟩)
  have HE4 : Hid (chkP ps = 0 → chkP qs = 0 → ps.length = qs.length → (thenE ps qs = 0 ∧ thenL ps qs = thU ps qs qs.length) ∧ qs.length ≤ 64 ∧ ∀ k, k < qs.length → 0 ≤ zat qs k ∧ zat qs k < qs.length) := Lib.hid (fun h h' h3 => by
    have : thenE ps qs = 0 := by unfold thenE; rw [if_neg (by simp [h]), if_neg (by simp [h']), if_neg (fun q => q h3)]
    have q := permB_iff.1 (chkP_perm.1 h')
    exact ⟨⟨this, by unfold thenL; rw [if_pos this, thU_all]⟩, q.1, fun k hk => (q.2 k hk).1⟩)
  have HL := Lib.hid (fun k => thU_length ps qs k)
  have HS := Lib.hid (show ∀ k, (thU ps qs k).set k (zat ps (zat qs k).toNat) = thU ps qs (k + 1) from fun k => thU_succ)
  have H0 := Lib.hid (thU_zero ps qs)
  have W1 := Lib.hid (chkP_ways ps)
  have W2 := Lib.hid (chkP_ways qs)
  clear hP hQ hc1 hc2
  generalize thenE ps qs = E at *
  generalize thenL ps qs = L at *
  generalize thU ps qs = F at *
  generalize chkP ps = ex at *
  generalize chkP qs = ey at *
  generalize ps.length = m at *
  generalize qs.length = n at *
  go_enter Try.func21, Try.ntmps21
  go_wp2
  go_loopw [15] (fun i wr => ∃ (k : Nat) (z : Int), k ≤ 2 ∧ z = k ∧ i = .int .i64 z ∧ Hid (1 ≤ k → ex = 0) ∧ Hid (2 ≤ k → ey = 0) ∧ Below w.heap.size w wr) (fun i _ => 2 - (intOf i).toNat)
  case atStart => exact ⟨0, 0, by omega, rfl, rfl, Lib.hid (fun h => absurd h (by decide)), Lib.hid (fun h => absurd h (by decide)), Below.refl _ _⟩
  case round =>
    obtain ⟨k, z, hk, hz, rfl, HE1', HE2', hB⟩ := hrel
    rcases (show k = 0 ∨ k = 1 ∨ k = 2 by omega) with rfl | rfl | rfl
    · obtain rfl : z = 0 := hz
      have hc := H1.out wr hB
      by_cases he : ex = 0
      · have HE := Lib.hid he
        have d : (ex != 0) = false := by simp [he]
        clear he
        go_wp2_with fail
        refine hc.mono ?_
        rintro e w2 ⟨rfl, b2⟩
        clear hc
        go_wp2
        go_roundw
        case rel => exact ⟨1, 1, by omega, rfl, rfl, Lib.hid (fun _ => HE.out), Lib.hid (fun h => absurd h (by decide)), below_both hB b2⟩
        case measure => simp [intOf]
      · have d : (ex != 0) = true := bne_iff_ne.2 he
        have HF := Lib.hid (HE1.out he)
        clear he
        go_wp2_with fail
        refine hc.mono ?_
        rintro e w2 ⟨rfl, b2⟩
        clear hc
        go_wp2
        go_ret2
        exact ⟨_, by rw [HF.out.1]; rfl, by rw [HF.out.2]; exact OwnK.nil _ _ _ _, below_both hB b2⟩
    · obtain rfl : z = 1 := hz
      have hc := H2.out wr hB
      have hx0 := HE1'.out (by omega)
      by_cases he : ey = 0
      · have HE := Lib.hid he
        have HX := Lib.hid hx0
        have d : (ey != 0) = false := by simp [he]
        clear he hx0
        go_wp2_with fail
        refine hc.mono ?_
        rintro e w2 ⟨rfl, b2⟩
        clear hc
        go_wp2
        go_roundw
        case rel => exact ⟨2, 2, by omega, rfl, rfl, Lib.hid (fun _ => HX.out), Lib.hid (fun _ => HE.out), below_both hB b2⟩
        case measure => simp [intOf]
      · have d : (ey != 0) = true := bne_iff_ne.2 he
        have HF := Lib.hid (HE2.out hx0 he)
        clear he hx0
        go_wp2_with fail
        refine hc.mono ?_
        rintro e w2 ⟨rfl, b2⟩
        clear hc
        go_wp2
        go_ret2
        exact ⟨_, by rw [HF.out.1]; rfl, by rw [HF.out.2]; exact OwnK.nil _ _ _ _, below_both hB b2⟩
    · obtain rfl : z = 2 := hz
      have hx0 := HE1'.out (by omega)
      have hy0 := HE2'.out (by omega)
      by_cases hmn : m = n
      · obtain ⟨⟨hE, hL⟩, hn64, hr⟩ := HE4.out hx0 hy0 hmn
        have d : ((m : Int) != (n : Int)) = false := by simp [hmn]
        subst hmn hE hL
        have HR := Lib.hid hr
        have hmk := makeN_int m hqn
        have hown := OwnK.full .i64 3 wr m hqn
        rw [← H0.out] at hown
        replace hown := hown.mono hB.size
        have hb : Below w.heap.size w (wr.alloc (.cells (madeCells #[.int .i64 0] m) 3)) := hB.alloc hB.size _
        have hg := hB.size
        have hm1 := hmk wr
        have d' : (m != m) = false := by simp
        clear hr hx0 hy0 HE1' HE2' HE1 HE2 HE3 HE4 W1 W2 hmk
        go_wp2
        clear hm1
        obtain ⟨wo, rfl⟩ : ∃ wo, wo = wr := ⟨_, rfl⟩
        generalize wo.alloc (.cells (madeCells #[.int .i64 0] m) 3) = W0 at *
        generalize wo.heap.size = g at *
        clear hB
        go_loopw [34] (fun i wr => ∃ k : Nat, k ≤ m ∧ i = .int .i64 k ∧ OwnK .i64 3 w.heap.size wr (.slice (some ⟨g, 0, none⟩) m m) (F k) ∧ Below w.heap.size w wr) (fun i _ => m - (intOf i).toNat)
        case atStart => exact ⟨0, Nat.zero_le _, rfl, hown, hb⟩
        case round =>
          obtain ⟨k, hk, rfl, ho, hB⟩ := hrel
          by_cases hlt : k < m
          · obtain ⟨o, rfl, kc⟩ := HB.out wr hB k hlt
            have hz := HR.out k hlt
            obtain ⟨r, hr⟩ : ∃ r : Nat, zat qs k = (r : Int) := ⟨(zat qs k).toNat, by omega⟩
            have HS1 := Lib.hid (HS.out k)
            rw [hr, Int.toNat_natCast] at HS1
            rw [hr] at kc hz
            have hrm : r < m := by omega
            obtain ⟨o2, rfl, kd⟩ := HA.out wr hB r hrm
            have f2 := ho.frozen k
            have d2 := ho.cell (j := k) (by rw [HL.out]; exact hlt)
            have hk64 : (k : Int) ≤ 63 := by omega
            generalize zat ps r = x at *
            clear hz hr
            go_wp2
            go_roundw
            case rel => exact ⟨k + 1, by omega, by simp, by rw [← HS1.out]; exact ho.set k _, hB.setCell (p := ⟨g, k, none⟩) hg _⟩
            case measure => simp [intOf]; omega
          · obtain rfl : k = m := by omega
            go_wp2
            go_ret2
            exact ⟨_, rfl, ho, hB⟩
      · have HF := Lib.hid (HE3.out hx0 hy0 hmn)
        have d : ((m : Int) != (n : Int)) = true := bne_iff_ne.2 (by omega)
        clear hmn hx0 hy0
        go_wp2
        go_ret2
        exact ⟨_, by rw [HF.out.1]; rfl, by rw [HF.out.2]; exact OwnK.nil _ _ _ _, hB⟩
theorem law17_alive {w : World} : Calls Try.prog 19 #[] w fun e W' => e = .returned (.bool true) ∧ Below w.heap.size w W' := by
  have hA := argk_new1 .i64 [(1 : Int)] w 3
  have h := perm_of (n := 2) hA (by simp)
  have e1 : okS 2 [(1 : Int)] = true := by decide
  have hb : Below w.heap.size w (w.alloc (.cells #[.int .i64 1] 3)) := (Below.refl _ w).alloc (Nat.le_refl _) _
  rw [e1] at h
  simp only [if_true] at h
  rw [show swZ (Int.toNat 2) [(1 : Int)] [(1 : Int)].length = [1, 0] by decide] at h
  go_enter Try.func19, Try.ntmps19
  go_wp2_with fail
  refine h.mono ?_
  rintro e w1 ⟨u, rfl, ho, b1⟩
  obtain ⟨g, c, rfl, _, _⟩ := ho.form (by simp)
  have d0 := ho.cell (j := 0) (by simp)
  have d1 := ho.cell (j := 1) (by simp)
  rw [show zat [(1 : Int), 0] 0 = 1 from rfl] at d0
  rw [show zat [(1 : Int), 0] 1 = 0 from rfl] at d1
  rw [show [(1 : Int), 0].length = 2 from rfl]
  clear h ho
  go_wp2
  go_ret
  exact ⟨rfl, below_both hb b1⟩
end Go.Proofs.Ytgppbimbampenaa
