/- vernierref01.Add: the document's own sum. -/
import Derived.Test.YthipbonhkcjcfaaDoorRefLimbs
import Derived.Test.YthipbonhkcjcfaaDoorRefCut
import Derived.IntWalk
namespace Go.Proofs.YthipbonhkcjcfaaDoor
open Go.RowKit Go.Shelf

/-- the digits of a sum, one by one: (what has been told, what is carried) -/
def sum16 (P Q : List Nat) : Nat → List Nat × Nat
  | 0 => ([], 0)
  | k + 1 => ((sum16 P Q k).1 ++ [((sum16 P Q k).2 + lim P k + lim Q k) % 65536], ((sum16 P Q k).2 + lim P k + lim Q k) / 65536)
theorem sum16_fine {P Q : List Nat} (hP : Low 65536 P) (hQ : Low 65536 Q) (k : Nat) : (sum16 P Q k).1.length = k ∧ (sum16 P Q k).2 ≤ 1 ∧ Low 65536 (sum16 P Q k).1 ∧
    val 65536 (sum16 P Q k).1 + 65536 ^ k * (sum16 P Q k).2 = part 65536 P k + part 65536 Q k := by
  induction k with
  | zero => exact ⟨rfl, by simp [sum16], (by intro x hx; cases hx), by simp [sum16, val, part]⟩
  | succ k ih =>
    obtain ⟨h1, h2, h3, h4⟩ := ih
    have hp := lim_lt hP (by decide) k
    have hq := lim_lt hQ (by decide) k
    simp only [sum16]
    generalize sum16 P Q k = s at h1 h2 h3 h4 ⊢
    refine ⟨by simp [h1], by omega, ?_, ?_⟩
    · intro x hx
      rcases List.mem_append.1 hx with h | h
      · exact h3 x h
      · simp at h; subst h; exact Nat.mod_lt _ (by decide)
    · rw [val_append, h1]
      simp only [val, part, Nat.mul_zero, Nat.add_zero]
      have hd : (s.2 + lim P k + lim Q k) % 65536 + 65536 * ((s.2 + lim P k + lim Q k) / 65536) = s.2 + lim P k + lim Q k := Nat.mod_add_div _ _
      have hm := congrArg (65536 ^ k * ·) hd
      simp only [Nat.mul_add, ← Nat.mul_assoc] at hm
      rw [Nat.pow_succ]
      omega
theorem sum16_digs {M N k : Nat} (h1 : (digs 65536 M).length ≤ k) (h2 : (digs 65536 N).length ≤ k) (h0 : (sum16 (digs 65536 M) (digs 65536 N) k).2 = 0) : cutz (sum16 (digs 65536 M) (digs 65536 N) k).1 = digs 65536 (M + N) := by
  obtain ⟨_, _, f3, f4⟩ := sum16_fine (digs_low (B := 65536) (by decide) M) (digs_low (B := 65536) (by decide) N) k
  rw [h0, part_ge _ _ _ h1, part_ge _ _ _ h2, val_digs (by decide), val_digs (by decide)] at f4
  rw [cutz_eq_digs (by decide) f3]
  congr 1

set_option maxHeartbeats 2000000 in
theorem refAdd_calls (ba bb : Nat) (va vb : Value) (M N : Nat) (hxl : (digs 65536 M).length ≤ 4398046511104) (hyl : (digs 65536 N).length ≤ 4398046511104) (w : World) (hba : ba < w.heap.size) (hbb : bb < w.heap.size) (hA : IAt ba w va (digs 65536 M)) (hB : IAt bb w vb (digs 65536 N)) :
    Calls Tryd.prog 35 #[va, vb] w fun e w' => ∃ v', e = .returned v' ∧ IArg w' v' (digs 65536 (M + N)) ∧ Below w.heap.size w w' := by
  obtain ⟨a, cap, rfl, hcap, hsa⟩ := hA.slice
  obtain ⟨b, cbp, rfl, hcbp, hsb⟩ := hB.slice
  have hP := digs_low (B := 65536) (by decide) M
  have hQ := digs_low (B := 65536) (by decide) N
  have hfin : Hid (∀ k, (digs 65536 M).length ≤ k → (digs 65536 N).length ≤ k → (sum16 (digs 65536 M) (digs 65536 N) k).2 = 0 → cutz (sum16 (digs 65536 M) (digs 65536 N) k).1 = digs 65536 (M + N)) := Lib.hid (fun k h1 h2 h0 => sum16_digs h1 h2 h0)
  generalize digs 65536 M = P at *
  generalize digs 65536 N = Q at *
  have HSA := Lib.hid hsa
  have HSB := Lib.hid hsb
  have HA := Lib.hid hA
  have HB := Lib.hid hB
  clear hsa hsb hA hB
  obtain ⟨i0, hi, hz0, hz1, hz2⟩ := info_parts info_int
  go_enter Tryd.func35, Tryd.ntmps35
  go_wp2
  go_loopw [5, 6, 7] (fun o c i wr => ∃ k C : Nat, k ≤ P.length + Q.length + 1 ∧ (C = 0 ∨ k ≤ P.length ∨ k ≤ Q.length) ∧ i = .int .i64 k ∧ C ≤ 1 ∧ Hid (C = (sum16 P Q k).2) ∧ c = .int .i64 C ∧ Hid (wr.ownsRow w.heap.size 3 1 o k (ints (sum16 P Q k).1)) ∧ Below w.heap.size w wr) (fun _ _ i _ => P.length + Q.length + 2 - (intOf i).toNat)
  case atStart => exact ⟨0, 0, by omega, .inl rfl, rfl, by omega, Lib.hid rfl, rfl, Lib.hid (by simpa [ints, sum16] using World.ownsRow_nil w w.heap.size 3 1), Below.refl _ _⟩
  case round =>
    obtain ⟨k, C, hk, hCk, rfl, hC1, hC, rfl, hown, hBw⟩ := hrel
    have hlp := lim_lt hP (by decide) k
    have hlq := lim_lt hQ (by decide) k
    by_cases hp : k < P.length
    · obtain ⟨oa, rfl⟩ := HSA.out (by omega)
      have hca : wr.cell? ⟨ba, oa + k, none⟩ = some (.int .i64 (lim P k : Int)) := (hBw.cell (p := ⟨ba, oa + k, none⟩) hba).trans (HA.out.cell hp)
      by_cases hq : k < Q.length
      · obtain ⟨ob, rfl⟩ := HSB.out (by omega)
        have hcb : wr.cell? ⟨bb, ob + k, none⟩ = some (.int .i64 (lim Q k : Int)) := (hBw.cell (p := ⟨bb, ob + k, none⟩) hbb).trans (HB.out.cell hq)
        have hE : Hid ((((C : Int) + (lim P k : Int) + (lim Q k : Int)) % 65536 : Int) = (((C + lim P k + lim Q k) % 65536 : Nat) : Int)) := Lib.hid (by omega)
        have hE2 : Hid ((((C : Int) + (lim P k : Int) + (lim Q k : Int)) / 65536 : Int) = (((C + lim P k + lim Q k) / 65536 : Nat) : Int)) := Lib.hid (by omega)
        have hS1 : Hid ((sum16 P Q (k + 1)).1 = (sum16 P Q k).1 ++ [(C + lim P k + lim Q k) % 65536]) := Lib.hid (by simp only [sum16]; rw [← hC.out])
        have hS2 : Hid ((sum16 P Q (k + 1)).2 = (C + lim P k + lim Q k) / 65536) := Lib.hid (by simp only [sum16]; rw [← hC.out])
        have hS3 : (C + lim P k + lim Q k) / 65536 ≤ 1 := by omega
        go_wp2_with (at_builtin; refine wpList_append_own _ rfl _ _ 34 rfl w.heap.size 3 i0 (.int .i64 0) 1 8 Tryd.underlying34 hi hz0 hz1 hz2 rfl (by decide) _ _ _ rfl (hown.out.alloc _) ⟨_, 0, none⟩ 1 1 [.int .i64 (((C : Int) + (lim P k : Int) + (lim Q k : Int)) % 65536)] rfl rfl (cell_one_new _ _ _) (by intro u hu; simp at hu; subst hu; rfl) (by simp only [maxLen]; omega) (by omega) (by have := hBw.size; simp; omega) ?_; intro v' w1 hown' hgrow _)
        have hown3 : Hid (w1.ownsRow w.heap.size 3 1 v' (k + 1) (ints (sum16 P Q (k + 1)).1)) := Lib.hid (by rw [hS1.out, ← ints_snoc, ← hE.out]; exact hown')
        have hB3 : Below w.heap.size w w1 := (hBw.alloc hBw.size (.cells #[.int .i64 (((C : Int) + (lim P k : Int) + (lim Q k : Int)) % 65536)] 3)).grown hgrow (by have := hBw.size; simp; omega) (fun g e => (hown.out.lt g e).1)
        clear hown' hgrow
        go_wp2
        go_roundw
        case rel => exact ⟨k + 1, (C + lim P k + lim Q k) / 65536, by omega, .inr (.inl (by omega)), by simp, hS3, Lib.hid hS2.out.symm, congrArg (Value.int .i64) hE2.out, hown3, hB3⟩
        case measure => simp [intOf]; omega
      · have h0 : Hid (lim Q k = 0) := Lib.hid (lim_ge (by omega))
        have hE : Hid ((((C : Int) + (lim P k : Int)) % 65536 : Int) = (((C + lim P k) % 65536 : Nat) : Int)) := Lib.hid (by omega)
        have hE2 : Hid ((((C : Int) + (lim P k : Int)) / 65536 : Int) = (((C + lim P k) / 65536 : Nat) : Int)) := Lib.hid (by omega)
        have hS1 : Hid ((sum16 P Q (k + 1)).1 = (sum16 P Q k).1 ++ [(C + lim P k) % 65536]) := Lib.hid (by simp only [sum16]; rw [← hC.out, h0.out, Nat.add_zero])
        have hS2 : Hid ((sum16 P Q (k + 1)).2 = (C + lim P k) / 65536) := Lib.hid (by simp only [sum16]; rw [← hC.out, h0.out, Nat.add_zero])
        have hS3 : (C + lim P k) / 65536 ≤ 1 := by omega
        go_wp2_with (at_builtin; refine wpList_append_own _ rfl _ _ 34 rfl w.heap.size 3 i0 (.int .i64 0) 1 8 Tryd.underlying34 hi hz0 hz1 hz2 rfl (by decide) _ _ _ rfl (hown.out.alloc _) ⟨_, 0, none⟩ 1 1 [.int .i64 (((C : Int) + (lim P k : Int)) % 65536)] rfl rfl (cell_one_new _ _ _) (by intro u hu; simp at hu; subst hu; rfl) (by simp only [maxLen]; omega) (by omega) (by have := hBw.size; simp; omega) ?_; intro v' w1 hown' hgrow _)
        have hown3 : Hid (w1.ownsRow w.heap.size 3 1 v' (k + 1) (ints (sum16 P Q (k + 1)).1)) := Lib.hid (by rw [hS1.out, ← ints_snoc, ← hE.out]; exact hown')
        have hB3 : Below w.heap.size w w1 := (hBw.alloc hBw.size (.cells #[.int .i64 (((C : Int) + (lim P k : Int)) % 65536)] 3)).grown hgrow (by have := hBw.size; simp; omega) (fun g e => (hown.out.lt g e).1)
        clear hown' hgrow
        go_wp2
        go_roundw
        case rel => exact ⟨k + 1, (C + lim P k) / 65536, by omega, .inr (.inl (by omega)), by simp, hS3, Lib.hid hS2.out.symm, congrArg (Value.int .i64) hE2.out, hown3, hB3⟩
        case measure => simp [intOf]; omega
    · have h00 : Hid (lim P k = 0) := Lib.hid (lim_ge (by omega))
      by_cases hq : k < Q.length
      · obtain ⟨ob, rfl⟩ := HSB.out (by omega)
        have hcb : wr.cell? ⟨bb, ob + k, none⟩ = some (.int .i64 (lim Q k : Int)) := (hBw.cell (p := ⟨bb, ob + k, none⟩) hbb).trans (HB.out.cell hq)
        have hE : Hid ((((C : Int) + (lim Q k : Int)) % 65536 : Int) = (((C + lim Q k) % 65536 : Nat) : Int)) := Lib.hid (by omega)
        have hE2 : Hid ((((C : Int) + (lim Q k : Int)) / 65536 : Int) = (((C + lim Q k) / 65536 : Nat) : Int)) := Lib.hid (by omega)
        have hS1 : Hid ((sum16 P Q (k + 1)).1 = (sum16 P Q k).1 ++ [(C + lim Q k) % 65536]) := Lib.hid (by simp only [sum16]; rw [← hC.out, h00.out, Nat.add_zero])
        have hS2 : Hid ((sum16 P Q (k + 1)).2 = (C + lim Q k) / 65536) := Lib.hid (by simp only [sum16]; rw [← hC.out, h00.out, Nat.add_zero])
        have hS3 : (C + lim Q k) / 65536 ≤ 1 := by omega
        go_wp2_with (at_builtin; refine wpList_append_own _ rfl _ _ 34 rfl w.heap.size 3 i0 (.int .i64 0) 1 8 Tryd.underlying34 hi hz0 hz1 hz2 rfl (by decide) _ _ _ rfl (hown.out.alloc _) ⟨_, 0, none⟩ 1 1 [.int .i64 (((C : Int) + (lim Q k : Int)) % 65536)] rfl rfl (cell_one_new _ _ _) (by intro u hu; simp at hu; subst hu; rfl) (by simp only [maxLen]; omega) (by omega) (by have := hBw.size; simp; omega) ?_; intro v' w1 hown' hgrow _)
        have hown3 : Hid (w1.ownsRow w.heap.size 3 1 v' (k + 1) (ints (sum16 P Q (k + 1)).1)) := Lib.hid (by rw [hS1.out, ← ints_snoc, ← hE.out]; exact hown')
        have hB3 : Below w.heap.size w w1 := (hBw.alloc hBw.size (.cells #[.int .i64 (((C : Int) + (lim Q k : Int)) % 65536)] 3)).grown hgrow (by have := hBw.size; simp; omega) (fun g e => (hown.out.lt g e).1)
        clear hown' hgrow
        go_wp2
        go_roundw
        case rel => exact ⟨k + 1, (C + lim Q k) / 65536, by omega, .inr (.inr (by omega)), by simp, hS3, Lib.hid hS2.out.symm, congrArg (Value.int .i64) hE2.out, hown3, hB3⟩
        case measure => simp [intOf]; omega
      · have h0 : Hid (lim Q k = 0) := Lib.hid (lim_ge (by omega))
        by_cases hc0 : 0 < C
        · skip
          have hE : Hid ((((C : Int)) % 65536 : Int) = (((C) % 65536 : Nat) : Int)) := Lib.hid (by omega)
          have hE2 : Hid ((((C : Int)) / 65536 : Int) = (((C) / 65536 : Nat) : Int)) := Lib.hid (by omega)
          have hS1 : Hid ((sum16 P Q (k + 1)).1 = (sum16 P Q k).1 ++ [(C) % 65536]) := Lib.hid (by simp only [sum16]; rw [← hC.out, h0.out, h00.out, Nat.add_zero])
          have hS2 : Hid ((sum16 P Q (k + 1)).2 = (C) / 65536) := Lib.hid (by simp only [sum16]; rw [← hC.out, h0.out, h00.out, Nat.add_zero])
          have hS3 : (C) / 65536 ≤ 1 := by omega
          go_wp2_with (at_builtin; refine wpList_append_own _ rfl _ _ 34 rfl w.heap.size 3 i0 (.int .i64 0) 1 8 Tryd.underlying34 hi hz0 hz1 hz2 rfl (by decide) _ _ _ rfl (hown.out.alloc _) ⟨_, 0, none⟩ 1 1 [.int .i64 (((C : Int)) % 65536)] rfl rfl (cell_one_new _ _ _) (by intro u hu; simp at hu; subst hu; rfl) (by simp only [maxLen]; omega) (by omega) (by have := hBw.size; simp; omega) ?_; intro v' w1 hown' hgrow _)
          have hown3 : Hid (w1.ownsRow w.heap.size 3 1 v' (k + 1) (ints (sum16 P Q (k + 1)).1)) := Lib.hid (by rw [hS1.out, ← ints_snoc, ← hE.out]; exact hown')
          have hB3 : Below w.heap.size w w1 := (hBw.alloc hBw.size (.cells #[.int .i64 (((C : Int)) % 65536)] 3)).grown hgrow (by have := hBw.size; simp; omega) (fun g e => (hown.out.lt g e).1)
          clear hown' hgrow
          go_wp2
          go_roundw
          case rel => exact ⟨k + 1, (C) / 65536, by omega, .inl (by omega), by simp, hS3, Lib.hid hS2.out.symm, congrArg (Value.int .i64) hE2.out, hown3, hB3⟩
          case measure => simp [intOf]; omega
        · obtain rfl : C = 0 := by omega
          have h4 := hown.out
          obtain ⟨S, hS, hr⟩ := own_arg h4 (Nat.lt_of_lt_of_le hba hBw.size)
          obtain ⟨f1, _, _, _⟩ := sum16_fine hP hQ k
          have hl : (sum16 P Q k).1.length ≤ 9223372036854775806 := by omega
          have HF : Hid (cutz (sum16 P Q k).1 = digs 65536 (M + N)) := Lib.hid (hfin.out k (by omega) (by omega) hC.out.symm)
          have HR := Lib.hid hr
          obtain ⟨xa, xc, rfl, _, _⟩ := hr.slice
          clear hr h4 f1
          go_wp2_with (go_at_call 34; refine (cut_calls S _ (sum16 P Q k).1 hl _ HR.out).mono ?_; rintro e w' ⟨v', rfl, h7, rfl⟩)
          go_ret
          exact ⟨_, rfl, ⟨S, hS, by rw [← HF.out]; exact h7⟩, hBw⟩
end Go.Proofs.YthipbonhkcjcfaaDoor

/- vernierref01.Cmp: how two of the document's own naturals stand. -/
namespace Go.Proofs.YthipbonhkcjcfaaDoor
open Go.RowKit Go.Shelf

set_option maxHeartbeats 2000000 in
theorem refCmp_calls (ba bb : Nat) (va vb : Value) (M N : Nat) (hxl : (digs 65536 M).length ≤ 9223372036854775806) (hyl : (digs 65536 N).length ≤ 9223372036854775806) (w : World) (hA : IAt ba w va (digs 65536 M)) (hB : IAt bb w vb (digs 65536 N)) :
    Calls Tryd.prog 36 #[va, vb] w fun e w' => e = .returned (.int .i64 (cmpN M N)) ∧ ∃ q, w' = w.drewN q := by
  obtain ⟨a, cap, rfl, hcap, hsa⟩ := hA.slice
  obtain ⟨b, cbp, rfl, hcbp, hsb⟩ := hB.slice
  have hP := digs_low (B := 65536) (by decide) M
  have hQ := digs_low (B := 65536) (by decide) N
  have hPc := cutz_digs (B := 65536) (by decide) M
  have hQc := cutz_digs (B := 65536) (by decide) N
  have hM : Hid (M = val 65536 (digs 65536 M)) := Lib.hid (val_digs (by decide) M).symm
  have hN : Hid (N = val 65536 (digs 65536 N)) := Lib.hid (val_digs (by decide) N).symm
  generalize digs 65536 M = P at *
  generalize digs 65536 N = Q at *
  have HSA := Lib.hid hsa
  have HSB := Lib.hid hsb
  have HA := Lib.hid hA
  have HB := Lib.hid hB
  have HPC := Lib.hid hPc
  have HQC := Lib.hid hQc
  clear hsa hsb hA hB hPc hQc
  by_cases hl : P.length = Q.length
  · have hle : P.length ≤ Q.length ∧ Q.length ≤ P.length := by omega
    have hd : ((P.length : Int) != (Q.length : Int)) = false := by simp [hl]
    have hd' : (P.length != Q.length) = false := by simp [hl]
    have HL := Lib.hid hl
    clear hl
    go_enter Tryd.func36, Tryd.ntmps36
    go_wp2
    go_loopw [5] (fun i wr => ∃ (r : Nat) (z : Int), r ≤ P.length ∧ z + 1 = r ∧ i = .int .i64 z ∧ Hid (∀ j, r ≤ j → j < P.length → lim P j = lim Q j) ∧ ∃ q, wr = w.drewN q) (fun i _ => (intOf i + 1).toNat)
    case atStart => exact ⟨P.length, _, Nat.le_refl _, by omega, rfl, Lib.hid (fun j h1 h2 => absurd h2 (by omega)), 0, rfl⟩
    case round =>
      obtain ⟨r, z, hr, hz, rfl, hs, q, rfl⟩ := hrel
      rcases Nat.eq_zero_or_pos r with rfl | h0
      · obtain rfl : z = -1 := by omega
        have hfin : Hid (cmpN M N = 0) := Lib.hid (by
          have e : P = Q := lim_ext HL.out fun j hj => hs.out j (Nat.zero_le _) hj
          rw [hM.out, hN.out, e, cmpN_self])
        go_wp2
        go_ret
        exact ⟨ret_int hfin.out.symm, q, rfl⟩
      · obtain ⟨t, rfl⟩ : ∃ t, r = t + 1 := ⟨r - 1, by omega⟩
        obtain rfl : z = (t : Int) := by omega
        obtain ⟨oa, rfl⟩ := HSA.out (by omega)
        obtain ⟨ob, rfl⟩ := HSB.out (by omega)
        have ht : t < P.length := by omega
        have ht2 : t < Q.length := by omega
        have ka := HA.out.cell (j := t) ht
        have kb := HB.out.cell (j := t) ht2
        rcases Nat.lt_trichotomy (lim P t) (lim Q t) with h | h | h
        · have hfin : Hid (cmpN M N = -1) := Lib.hid (by rw [hM.out, hN.out]; exact cmpN_lt (val_lt_at (by decide) hP hQ HL.out ht (fun j h1 h2 => hs.out j h1 h2) h))
          go_wp2
          go_quiet (fail)
          go_wp2
          go_ret
          exact ⟨ret_int hfin.out.symm, _, by rw [World.drewN_drewN]⟩
        · have h1 : lim P t ≤ lim Q t := by omega
          have h2 : lim Q t ≤ lim P t := by omega
          have H := Lib.hid h
          clear h
          go_wp2
          go_quiet (fail)
          go_wp2
          go_quiet (fail)
          go_wp2
          go_roundw
          case rel =>
            refine ⟨t, (t : Int) - 1, by omega, by omega, rfl, Lib.hid (fun j h1 h2 => ?_), _, rfl⟩
            rcases Nat.lt_or_ge t j with h3 | h3
            · exact hs.out j h3 h2
            · obtain rfl : j = t := by omega
              exact H.out
          case measure => simp [intOf]
        · have hfin : Hid (cmpN M N = 1) := Lib.hid (by rw [hM.out, hN.out]; exact cmpN_gt (val_lt_at (by decide) hQ hP HL.out.symm ht2 (fun j h1 h2 => (hs.out j h1 (by omega)).symm) h))
          have h1 : ¬ (lim P t < lim Q t) := by omega
          go_wp2
          go_quiet (fail)
          go_wp2
          go_quiet (fail)
          go_wp2
          go_ret
          exact ⟨ret_int hfin.out.symm, _, by rw [World.drewN_drewN, World.drewN_drewN]⟩
  · have hd : ((P.length : Int) != (Q.length : Int)) = true := by simp; omega
    have hd' : (P.length != Q.length) = true := by simp; omega
    rcases Nat.lt_or_ge P.length Q.length with h | h
    · have hfin : Hid (cmpN M N = -1) := Lib.hid (by rw [hM.out, hN.out]; exact cmpN_lt (low_length_lt (by decide) hP HQC.out h))
      clear hl
      go_enter Tryd.func36, Tryd.ntmps36
      go_wp2
      go_ret
      exact ⟨ret_int hfin.out.symm, 0, rfl⟩
    · have h' : Q.length < P.length := by omega
      have hfin : Hid (cmpN M N = 1) := Lib.hid (by rw [hM.out, hN.out]; exact cmpN_gt (low_length_lt (by decide) hQ HPC.out h'))
      clear hl
      go_enter Tryd.func36, Tryd.ntmps36
      go_wp2
      go_ret
      exact ⟨ret_int hfin.out.symm, 0, rfl⟩
end Go.Proofs.YthipbonhkcjcfaaDoor

/- vernierref01.Sub: how far two of the document's own naturals are apart. -/
namespace Go.Proofs.YthipbonhkcjcfaaDoor
open Go.RowKit Go.Shelf

/-- the digits of a difference, one by one: (what has been told, what is borrowed) -/
def dif16 (P Q : List Nat) : Nat → List Nat × Nat
  | 0 => ([], 0)
  | k + 1 => ((dif16 P Q k).1 ++ [(lim P k + 65536 - lim Q k - (dif16 P Q k).2) % 65536], if lim P k < lim Q k + (dif16 P Q k).2 then 1 else 0)
theorem dif16_fine {P Q : List Nat} (hP : Low 65536 P) (hQ : Low 65536 Q) (k : Nat) : (dif16 P Q k).1.length = k ∧ (dif16 P Q k).2 ≤ 1 ∧ Low 65536 (dif16 P Q k).1 ∧
    val 65536 (dif16 P Q k).1 + part 65536 Q k = part 65536 P k + 65536 ^ k * (dif16 P Q k).2 := by
  induction k with
  | zero => exact ⟨rfl, by simp [dif16], (by intro x hx; cases hx), by simp [dif16, val, part]⟩
  | succ k ih =>
    obtain ⟨h1, h2, h3, h4⟩ := ih
    have hp := lim_lt hP (by decide) k
    have hq := lim_lt hQ (by decide) k
    simp only [dif16]
    generalize dif16 P Q k = s at h1 h2 h3 h4 ⊢
    refine ⟨by simp [h1], by split <;> omega, ?_, ?_⟩
    · intro x hx
      rcases List.mem_append.1 hx with h | h
      · exact h3 x h
      · simp at h; subst h; exact Nat.mod_lt _ (by decide)
    · rw [val_append, h1]
      simp only [val, part, Nat.mul_zero, Nat.add_zero]
      have hd : (lim P k + 65536 - lim Q k - s.2) % 65536 + lim Q k + s.2 = lim P k + 65536 * (if lim P k < lim Q k + s.2 then 1 else 0) := by
        split <;> omega
      have hm := congrArg (65536 ^ k * ·) hd
      simp only [Nat.mul_add, ← Nat.mul_assoc] at hm
      rw [Nat.pow_succ]
      omega
theorem dif16_digs {M N : Nat} (h : N ≤ M) : cutz (dif16 (digs 65536 M) (digs 65536 N) (digs 65536 M).length).1 = digs 65536 (M - N) := by
  have hP := digs_low (B := 65536) (by decide) M
  have hQ := digs_low (B := 65536) (by decide) N
  obtain ⟨f1, f2, f3, f4⟩ := dif16_fine hP hQ (digs 65536 M).length
  have hl : (digs 65536 N).length ≤ (digs 65536 M).length := low_length_le (B := 65536) (by decide) hP (cutz_digs (by decide) N) (by rw [val_digs (by decide), val_digs (by decide)]; exact h)
  rw [part_all, part_ge _ _ _ hl, val_digs (by decide), val_digs (by decide)] at f4
  have h2 := val_lt f3 (by decide)
  rw [f1] at h2
  rw [cutz_eq_digs (by decide) f3]
  generalize dif16 (digs 65536 M) (digs 65536 N) (digs 65536 M).length = s at *
  have h3 : s.2 = 0 ∨ s.2 = 1 := by omega
  rcases h3 with h3 | h3
  · rw [h3] at f4
    congr 1
    omega
  · rw [h3] at f4
    omega

theorem tmod16 (X : Int) (h1 : -65537 ≤ X) (h2 : X ≤ 65536) : (wrap64 (X.tmod 65536 + 65536)).tmod 65536 = X % 65536 := by
  have hb := Int.tmod_lt_of_pos X (b := 65536) (by decide)
  rcases Int.lt_or_le X 0 with h | h
  · have e : X.tmod 65536 = -((-X) % 65536) := by
      rw [show X = -(-X) by omega, Int.neg_tmod, Int.tmod_eq_emod_of_nonneg (by omega)]
      simp
    rw [e, IntWalk.wrap64_in _ (by omega), Int.tmod_eq_emod_of_nonneg (by omega)]
    omega
  · rw [Int.tmod_eq_emod_of_nonneg h, IntWalk.wrap64_in _ (by omega), Int.tmod_eq_emod_of_nonneg (by omega)]
    omega
theorem tdiv16 (b : Nat) : (-(65536 * (b : Int))).tdiv 65536 = -(b : Int) := by
  rw [Int.neg_tdiv, Int.mul_tdiv_cancel_left _ (by decide)]
theorem dif_fit {p q C : Nat} (hp : p < 65536) (hq : q < 65536) (hC : C ≤ 1) :
    (wrap64 ((-(C : Int) + p - q).tmod 65536 + 65536)).tmod 65536 = (((p + 65536 - q - C) % 65536 : Nat) : Int) ∧
      (-(C : Int) + p - q - (((p + 65536 - q - C) % 65536 : Nat) : Int)).tdiv 65536 = -((if p < q + C then 1 else 0 : Nat) : Int) := by
  rw [tmod16 _ (by omega) (by omega)]
  refine ⟨by omega, ?_⟩
  have e : -(C : Int) + p - q - (((p + 65536 - q - C) % 65536 : Nat) : Int) = -(65536 * ((if p < q + C then 1 else 0 : Nat) : Int)) := by split <;> omega
  rw [e, tdiv16]

set_option maxHeartbeats 2000000 in
/-- the loop, of a number that is not the less one -/
theorem refSub_ge (ba bb : Nat) (va vb : Value) (M N : Nat) (hxl : (digs 65536 M).length ≤ 4398046511104) (hyl : (digs 65536 N).length ≤ 4398046511104) (hge : N ≤ M) (w : World) (hba : ba < w.heap.size) (hbb : bb < w.heap.size) (hA : IAt ba w va (digs 65536 M)) (hB : IAt bb w vb (digs 65536 N)) :
    Calls Tryd.prog 37 #[va, vb] w fun e w' => ∃ v', e = .returned v' ∧ IArg w' v' (digs 65536 (dist M N)) ∧ Below w.heap.size w w' := by
  have hcmp := refCmp_calls ba bb va vb M N (by omega) (by omega) w hA hB
  obtain ⟨a, cap, rfl, hcap, hsa⟩ := hA.slice
  obtain ⟨b, cbp, rfl, hcbp, hsb⟩ := hB.slice
  have hP := digs_low (B := 65536) (by decide) M
  have hQ := digs_low (B := 65536) (by decide) N
  have hfin : Hid (cutz (dif16 (digs 65536 M) (digs 65536 N) (digs 65536 M).length).1 = digs 65536 (dist M N)) := Lib.hid (by rw [dist_ge hge]; exact dif16_digs hge)
  have hlt0 : ¬ (cmpN M N < 0) := by unfold cmpN; rw [if_neg (by omega)]; split <;> omega
  generalize digs 65536 M = P at *
  generalize digs 65536 N = Q at *
  have HSA := Lib.hid hsa
  have HSB := Lib.hid hsb
  have HA := Lib.hid hA
  have HB := Lib.hid hB
  clear hsa hsb hA hB
  obtain ⟨i0, hi, hz0, hz1, hz2⟩ := info_parts info_int
  go_enter Tryd.func37, Tryd.ntmps37
  go_wp2_with fail
  refine hcmp.mono ?_
  rintro e w' ⟨rfl, q, rfl⟩
  clear hcmp
  go_wp2_with fail
  have hB0 : Below w.heap.size w (w.drewN q) := below_drewN _ _ _
  go_loopw [5, 6, 7] (fun o c i wr => ∃ k C : Nat, k ≤ P.length ∧ i = .int .i64 k ∧ C ≤ 1 ∧ Hid (C = (dif16 P Q k).2) ∧ c = .int .i64 (-(C : Int)) ∧ Hid (wr.ownsRow w.heap.size 3 1 o k (ints (dif16 P Q k).1)) ∧ Below w.heap.size w wr) (fun _ _ i _ => P.length + 2 - (intOf i).toNat)
  case atStart => exact ⟨0, 0, by omega, rfl, by omega, Lib.hid rfl, rfl, Lib.hid (by simpa [ints, dif16] using World.ownsRow_nil (w.drewN q) w.heap.size 3 1), hB0⟩
  case round =>
    obtain ⟨k, C, hk, rfl, hC1, hC, rfl, hown, hBw⟩ := hrel
    have hlp := lim_lt hP (by decide) k
    have hlq := lim_lt hQ (by decide) k
    by_cases hp : k < P.length
    · obtain ⟨oa, rfl⟩ := HSA.out (by omega)
      have hca : wr.cell? ⟨ba, oa + k, none⟩ = some (.int .i64 (lim P k : Int)) := (hBw.cell (p := ⟨ba, oa + k, none⟩) hba).trans (HA.out.cell hp)
      by_cases hq : k < Q.length
      · obtain ⟨ob, rfl⟩ := HSB.out (by omega)
        have hcb : wr.cell? ⟨bb, ob + k, none⟩ = some (.int .i64 (lim Q k : Int)) := (hBw.cell (p := ⟨bb, ob + k, none⟩) hbb).trans (HB.out.cell hq)
        have hF := dif_fit hlp hlq hC1
        have hS1 : Hid ((dif16 P Q (k + 1)).1 = (dif16 P Q k).1 ++ [(lim P k + 65536 - lim Q k - C) % 65536]) := Lib.hid (by simp only [dif16]; rw [← hC.out])
        have hS2 : Hid ((dif16 P Q (k + 1)).2 = if lim P k < lim Q k + C then 1 else 0) := Lib.hid (by simp only [dif16]; rw [← hC.out])
        have hdl : (lim P k + 65536 - lim Q k - C) % 65536 < 65536 := Nat.mod_lt _ (by decide)
        have hS3 : (if lim P k < lim Q k + C then 1 else 0 : Nat) ≤ 1 := by split <;> omega
        generalize (lim P k + 65536 - lim Q k - C) % 65536 = d at hF hS1 hdl
        generalize (if lim P k < lim Q k + C then 1 else 0 : Nat) = b2 at hF hS2 hS3
        obtain ⟨hE, hE2⟩ := hF
        go_wp2_with (at_builtin; refine wpList_append_own _ rfl _ _ 34 rfl w.heap.size 3 i0 (.int .i64 0) 1 8 Tryd.underlying34 hi hz0 hz1 hz2 rfl (by decide) _ _ _ rfl (hown.out.alloc _) ⟨_, 0, none⟩ 1 1 [.int .i64 (d : Int)] rfl rfl (cell_one_new _ _ _) (by intro u hu; simp at hu; subst hu; rfl) (by simp only [maxLen]; omega) (by omega) (by have := hBw.size; simp; omega) ?_; intro v' w1 hown' hgrow _)
        have hown3 : Hid (w1.ownsRow w.heap.size 3 1 v' (k + 1) (ints (dif16 P Q (k + 1)).1)) := Lib.hid (by rw [hS1.out, ← ints_snoc]; exact hown')
        have hB3 : Below w.heap.size w w1 := (hBw.alloc hBw.size (.cells #[.int .i64 (d : Int)] 3)).grown hgrow (by have := hBw.size; simp; omega) (fun g e => (hown.out.lt g e).1)
        clear hown' hgrow
        go_wp2
        go_roundw
        case rel => exact ⟨k + 1, b2, by omega, by simp, hS3, Lib.hid hS2.out.symm, rfl, hown3, hB3⟩
        case measure => simp [intOf]; omega
      · have h0 : Hid (lim Q k = 0) := Lib.hid (lim_ge (by omega))
        have hF := dif_fit hlp hlq hC1
        rw [h0.out] at hF
        simp only [Int.natCast_zero, Int.sub_zero] at hF
        have hS1 : Hid ((dif16 P Q (k + 1)).1 = (dif16 P Q k).1 ++ [(lim P k + 65536 - 0 - C) % 65536]) := Lib.hid (by simp only [dif16]; rw [← hC.out, h0.out])
        have hS2 : Hid ((dif16 P Q (k + 1)).2 = if lim P k < 0 + C then 1 else 0) := Lib.hid (by simp only [dif16]; rw [← hC.out, h0.out])
        have hdl : (lim P k + 65536 - 0 - C) % 65536 < 65536 := Nat.mod_lt _ (by decide)
        have hS3 : (if lim P k < 0 + C then 1 else 0 : Nat) ≤ 1 := by split <;> omega
        generalize (lim P k + 65536 - 0 - C) % 65536 = d at hF hS1 hdl
        generalize (if lim P k < 0 + C then 1 else 0 : Nat) = b2 at hF hS2 hS3
        obtain ⟨hE, hE2⟩ := hF
        go_wp2_with (at_builtin; refine wpList_append_own _ rfl _ _ 34 rfl w.heap.size 3 i0 (.int .i64 0) 1 8 Tryd.underlying34 hi hz0 hz1 hz2 rfl (by decide) _ _ _ rfl (hown.out.alloc _) ⟨_, 0, none⟩ 1 1 [.int .i64 (d : Int)] rfl rfl (cell_one_new _ _ _) (by intro u hu; simp at hu; subst hu; rfl) (by simp only [maxLen]; omega) (by omega) (by have := hBw.size; simp; omega) ?_; intro v' w1 hown' hgrow _)
        have hown3 : Hid (w1.ownsRow w.heap.size 3 1 v' (k + 1) (ints (dif16 P Q (k + 1)).1)) := Lib.hid (by rw [hS1.out, ← ints_snoc]; exact hown')
        have hB3 : Below w.heap.size w w1 := (hBw.alloc hBw.size (.cells #[.int .i64 (d : Int)] 3)).grown hgrow (by have := hBw.size; simp; omega) (fun g e => (hown.out.lt g e).1)
        clear hown' hgrow
        go_wp2
        go_roundw
        case rel => exact ⟨k + 1, b2, by omega, by simp, hS3, Lib.hid hS2.out.symm, rfl, hown3, hB3⟩
        case measure => simp [intOf]; omega
    · obtain rfl : k = P.length := by omega
      have h4 := hown.out
      obtain ⟨S, hS, hr⟩ := own_arg h4 (Nat.lt_of_lt_of_le hba hBw.size)
      obtain ⟨f1, _, _, _⟩ := dif16_fine hP hQ P.length
      have hl : (dif16 P Q P.length).1.length ≤ 9223372036854775806 := by omega
      have HR := Lib.hid hr
      obtain ⟨xa, xc, rfl, _, _⟩ := hr.slice
      clear hr h4 f1
      go_wp2_with (go_at_call 34; refine (cut_calls S _ (dif16 P Q P.length).1 hl _ HR.out).mono ?_; rintro e w' ⟨v', rfl, h7, rfl⟩)
      go_ret
      exact ⟨_, rfl, ⟨S, hS, by rw [← hfin.out]; exact h7⟩, hBw⟩
set_option maxHeartbeats 2000000 in
/-- the loop, of a number that is the less one: they change places -/
theorem refSub_lt (ba bb : Nat) (va vb : Value) (M N : Nat) (hxl : (digs 65536 M).length ≤ 4398046511104) (hyl : (digs 65536 N).length ≤ 4398046511104) (hlt : M < N) (w : World) (hba : ba < w.heap.size) (hbb : bb < w.heap.size) (hA : IAt ba w va (digs 65536 M)) (hB : IAt bb w vb (digs 65536 N)) :
    Calls Tryd.prog 37 #[va, vb] w fun e w' => ∃ v', e = .returned v' ∧ IArg w' v' (digs 65536 (dist M N)) ∧ Below w.heap.size w w' := by
  have hcmp := refCmp_calls ba bb va vb M N (by omega) (by omega) w hA hB
  have hxy : ba = ba := rfl
  clear hxy
  obtain ⟨a, cap, rfl, hcap, hsa⟩ := hA.slice
  obtain ⟨b, cbp, rfl, hcbp, hsb⟩ := hB.slice
  have hP := digs_low (B := 65536) (by decide) N
  have hQ := digs_low (B := 65536) (by decide) M
  have hfin : Hid (cutz (dif16 (digs 65536 N) (digs 65536 M) (digs 65536 N).length).1 = digs 65536 (dist M N)) := Lib.hid (by rw [dist_comm, dist_ge (Nat.le_of_lt hlt)]; exact dif16_digs (Nat.le_of_lt hlt))
  have hlt0 : cmpN M N < 0 := by unfold cmpN; rw [if_pos hlt]; decide
  generalize digs 65536 N = P at *
  generalize digs 65536 M = Q at *
  have HSA := Lib.hid hsb
  have HSB := Lib.hid hsa
  have HA := Lib.hid hB
  have HB := Lib.hid hA
  clear hsa hsb hA hB
  obtain ⟨i0, hi, hz0, hz1, hz2⟩ := info_parts info_int
  go_enter Tryd.func37, Tryd.ntmps37
  go_wp2_with fail
  refine hcmp.mono ?_
  rintro e w' ⟨rfl, q, rfl⟩
  clear hcmp
  go_wp2_with fail
  have hB0 : Below w.heap.size w (w.drewN q) := below_drewN _ _ _
  go_loopw [5, 6, 7] (fun o c i wr => ∃ k C : Nat, k ≤ P.length ∧ i = .int .i64 k ∧ C ≤ 1 ∧ Hid (C = (dif16 P Q k).2) ∧ c = .int .i64 (-(C : Int)) ∧ Hid (wr.ownsRow w.heap.size 3 1 o k (ints (dif16 P Q k).1)) ∧ Below w.heap.size w wr) (fun _ _ i _ => P.length + 2 - (intOf i).toNat)
  case atStart => exact ⟨0, 0, by omega, rfl, by omega, Lib.hid rfl, rfl, Lib.hid (by simpa [ints, dif16] using World.ownsRow_nil (w.drewN q) w.heap.size 3 1), hB0⟩
  case round =>
    obtain ⟨k, C, hk, rfl, hC1, hC, rfl, hown, hBw⟩ := hrel
    have hlp := lim_lt hP (by decide) k
    have hlq := lim_lt hQ (by decide) k
    by_cases hp : k < P.length
    · obtain ⟨oa, rfl⟩ := HSA.out (by omega)
      have hca : wr.cell? ⟨bb, oa + k, none⟩ = some (.int .i64 (lim P k : Int)) := (hBw.cell (p := ⟨bb, oa + k, none⟩) hbb).trans (HA.out.cell hp)
      by_cases hq : k < Q.length
      · obtain ⟨ob, rfl⟩ := HSB.out (by omega)
        have hcb : wr.cell? ⟨ba, ob + k, none⟩ = some (.int .i64 (lim Q k : Int)) := (hBw.cell (p := ⟨ba, ob + k, none⟩) hba).trans (HB.out.cell hq)
        have hF := dif_fit hlp hlq hC1
        have hS1 : Hid ((dif16 P Q (k + 1)).1 = (dif16 P Q k).1 ++ [(lim P k + 65536 - lim Q k - C) % 65536]) := Lib.hid (by simp only [dif16]; rw [← hC.out])
        have hS2 : Hid ((dif16 P Q (k + 1)).2 = if lim P k < lim Q k + C then 1 else 0) := Lib.hid (by simp only [dif16]; rw [← hC.out])
        have hdl : (lim P k + 65536 - lim Q k - C) % 65536 < 65536 := Nat.mod_lt _ (by decide)
        have hS3 : (if lim P k < lim Q k + C then 1 else 0 : Nat) ≤ 1 := by split <;> omega
        generalize (lim P k + 65536 - lim Q k - C) % 65536 = d at hF hS1 hdl
        generalize (if lim P k < lim Q k + C then 1 else 0 : Nat) = b2 at hF hS2 hS3
        obtain ⟨hE, hE2⟩ := hF
        go_wp2_with (at_builtin; refine wpList_append_own _ rfl _ _ 34 rfl w.heap.size 3 i0 (.int .i64 0) 1 8 Tryd.underlying34 hi hz0 hz1 hz2 rfl (by decide) _ _ _ rfl (hown.out.alloc _) ⟨_, 0, none⟩ 1 1 [.int .i64 (d : Int)] rfl rfl (cell_one_new _ _ _) (by intro u hu; simp at hu; subst hu; rfl) (by simp only [maxLen]; omega) (by omega) (by have := hBw.size; simp; omega) ?_; intro v' w1 hown' hgrow _)
        have hown3 : Hid (w1.ownsRow w.heap.size 3 1 v' (k + 1) (ints (dif16 P Q (k + 1)).1)) := Lib.hid (by rw [hS1.out, ← ints_snoc]; exact hown')
        have hB3 : Below w.heap.size w w1 := (hBw.alloc hBw.size (.cells #[.int .i64 (d : Int)] 3)).grown hgrow (by have := hBw.size; simp; omega) (fun g e => (hown.out.lt g e).1)
        clear hown' hgrow
        go_wp2
        go_roundw
        case rel => exact ⟨k + 1, b2, by omega, by simp, hS3, Lib.hid hS2.out.symm, rfl, hown3, hB3⟩
        case measure => simp [intOf]; omega
      · have h0 : Hid (lim Q k = 0) := Lib.hid (lim_ge (by omega))
        have hF := dif_fit hlp hlq hC1
        rw [h0.out] at hF
        simp only [Int.natCast_zero, Int.sub_zero] at hF
        have hS1 : Hid ((dif16 P Q (k + 1)).1 = (dif16 P Q k).1 ++ [(lim P k + 65536 - 0 - C) % 65536]) := Lib.hid (by simp only [dif16]; rw [← hC.out, h0.out])
        have hS2 : Hid ((dif16 P Q (k + 1)).2 = if lim P k < 0 + C then 1 else 0) := Lib.hid (by simp only [dif16]; rw [← hC.out, h0.out])
        have hdl : (lim P k + 65536 - 0 - C) % 65536 < 65536 := Nat.mod_lt _ (by decide)
        have hS3 : (if lim P k < 0 + C then 1 else 0 : Nat) ≤ 1 := by split <;> omega
        generalize (lim P k + 65536 - 0 - C) % 65536 = d at hF hS1 hdl
        generalize (if lim P k < 0 + C then 1 else 0 : Nat) = b2 at hF hS2 hS3
        obtain ⟨hE, hE2⟩ := hF
        go_wp2_with (at_builtin; refine wpList_append_own _ rfl _ _ 34 rfl w.heap.size 3 i0 (.int .i64 0) 1 8 Tryd.underlying34 hi hz0 hz1 hz2 rfl (by decide) _ _ _ rfl (hown.out.alloc _) ⟨_, 0, none⟩ 1 1 [.int .i64 (d : Int)] rfl rfl (cell_one_new _ _ _) (by intro u hu; simp at hu; subst hu; rfl) (by simp only [maxLen]; omega) (by omega) (by have := hBw.size; simp; omega) ?_; intro v' w1 hown' hgrow _)
        have hown3 : Hid (w1.ownsRow w.heap.size 3 1 v' (k + 1) (ints (dif16 P Q (k + 1)).1)) := Lib.hid (by rw [hS1.out, ← ints_snoc]; exact hown')
        have hB3 : Below w.heap.size w w1 := (hBw.alloc hBw.size (.cells #[.int .i64 (d : Int)] 3)).grown hgrow (by have := hBw.size; simp; omega) (fun g e => (hown.out.lt g e).1)
        clear hown' hgrow
        go_wp2
        go_roundw
        case rel => exact ⟨k + 1, b2, by omega, by simp, hS3, Lib.hid hS2.out.symm, rfl, hown3, hB3⟩
        case measure => simp [intOf]; omega
    · obtain rfl : k = P.length := by omega
      have h4 := hown.out
      obtain ⟨S, hS, hr⟩ := own_arg h4 (Nat.lt_of_lt_of_le hbb hBw.size)
      obtain ⟨f1, _, _, _⟩ := dif16_fine hP hQ P.length
      have hl : (dif16 P Q P.length).1.length ≤ 9223372036854775806 := by omega
      have HR := Lib.hid hr
      obtain ⟨xa, xc, rfl, _, _⟩ := hr.slice
      clear hr h4 f1
      go_wp2_with (go_at_call 34; refine (cut_calls S _ (dif16 P Q P.length).1 hl _ HR.out).mono ?_; rintro e w' ⟨v', rfl, h7, rfl⟩)
      go_ret
      exact ⟨_, rfl, ⟨S, hS, by rw [← hfin.out]; exact h7⟩, hBw⟩
theorem refSub_calls (ba bb : Nat) (va vb : Value) (M N : Nat) (hxl : (digs 65536 M).length ≤ 4398046511104) (hyl : (digs 65536 N).length ≤ 4398046511104) (w : World) (hba : ba < w.heap.size) (hbb : bb < w.heap.size) (hA : IAt ba w va (digs 65536 M)) (hB : IAt bb w vb (digs 65536 N)) :
    Calls Tryd.prog 37 #[va, vb] w fun e w' => ∃ v', e = .returned v' ∧ IArg w' v' (digs 65536 (dist M N)) ∧ Below w.heap.size w w' := by
  rcases Nat.lt_or_ge M N with h | h
  · exact refSub_lt ba bb va vb M N hxl hyl h w hba hbb hA hB
  · exact refSub_ge ba bb va vb M N hxl hyl h w hba hbb hA hB
end Go.Proofs.YthipbonhkcjcfaaDoor
