/- vernierref01.Add: the document's own sum. -/
import Derived.Test.YtppbifijgkcpjaaRefLimbs
namespace Go.Proofs.Ytppbifijgkcpjaa
open Go.RowKit Go.Shelf

/-- the digits of a sum, one by one: (what has been told, what is carried) -/
def sum16 (P Q : List Nat) : Nat → List Nat × Nat
  | 0 => ([], 0)
  | k + 1 => ((sum16 P Q k).1 ++ [((sum16 P Q k).2 + lim P k + lim Q k) % 65536], ((sum16 P Q k).2 + lim P k + lim Q k) / 65536)
theorem sum16_fine {P Q : List Nat} (hP : Low 65536 P) (hQ : Low 65536 Q) (k : Nat) : (sum16 P Q k).1.length = k ∧ (sum16 P Q k).2 ≤ 1 ∧ Low 65536 (sum16 P Q k).1 ∧
    val 65536 (sum16 P Q k).1 + 65536 ^ k * (sum16 P Q k).2 = part 65536 P k + part 65536 Q k := by
  induction k with
  | zero => exact ⟨rfl, by simp [sum16], (by intro x hx; cases hx), by simp [sum16, val, part]⟩
  | succ k ih =>
    obtain ⟨h1, h2, h3, h4⟩ := ih
    have hp := lim_lt hP (by decide) k
    have hq := lim_lt hQ (by decide) k
    simp only [sum16]
    generalize sum16 P Q k = s at h1 h2 h3 h4 ⊢
    refine ⟨by simp [h1], by omega, ?_, ?_⟩
    · intro x hx
      rcases List.mem_append.1 hx with h | h
      · exact h3 x h
      · simp at h; subst h; exact Nat.mod_lt _ (by decide)
    · rw [val_append, h1]
      simp only [val, part, Nat.mul_zero, Nat.add_zero]
      have hd : (s.2 + lim P k + lim Q k) % 65536 + 65536 * ((s.2 + lim P k + lim Q k) / 65536) = s.2 + lim P k + lim Q k := Nat.mod_add_div _ _
      have hm := congrArg (65536 ^ k * ·) hd
      simp only [Nat.mul_add, ← Nat.mul_assoc] at hm
      rw [Nat.pow_succ]
      omega
theorem sum16_digs {M N k : Nat} (h1 : (digs 65536 M).length ≤ k) (h2 : (digs 65536 N).length ≤ k) (h0 : (sum16 (digs 65536 M) (digs 65536 N) k).2 = 0) : cutz (sum16 (digs 65536 M) (digs 65536 N) k).1 = digs 65536 (M + N) := by
  obtain ⟨_, _, f3, f4⟩ := sum16_fine (digs_low (B := 65536) (by decide) M) (digs_low (B := 65536) (by decide) N) k
  rw [h0, part_ge _ _ _ h1, part_ge _ _ _ h2, val_digs (by decide), val_digs (by decide)] at f4
  rw [cutz_eq_digs (by decide) f3]
  congr 1

set_option maxHeartbeats 2000000 in
theorem refAdd_calls (ba bb : Nat) (va vb : Value) (M N : Nat) (hxl : (digs 65536 M).length ≤ 4398046511104) (hyl : (digs 65536 N).length ≤ 4398046511104) (w : World) (hba : ba < w.heap.size) (hbb : bb < w.heap.size) (hA : IAt ba w va (digs 65536 M)) (hB : IAt bb w vb (digs 65536 N)) :
    Calls Try.prog 18 #[va, vb] w fun e w' => ∃ v', e = .returned v' ∧ IArg w' v' (digs 65536 (M + N)) ∧ Below w.heap.size w w' := by
  obtain ⟨a, cap, rfl, hcap, hsa⟩ := hA.slice
  obtain ⟨b, cbp, rfl, hcbp, hsb⟩ := hB.slice
  have hP := digs_low (B := 65536) (by decide) M
  have hQ := digs_low (B := 65536) (by decide) N
  have hfin : Hid (∀ k, (digs 65536 M).length ≤ k → (digs 65536 N).length ≤ k → (sum16 (digs 65536 M) (digs 65536 N) k).2 = 0 → cutz (sum16 (digs 65536 M) (digs 65536 N) k).1 = digs 65536 (M + N)) := Lib.hid (fun k h1 h2 h0 => sum16_digs h1 h2 h0)
  generalize digs 65536 M = P at *
  generalize digs 65536 N = Q at *
  have HSA := Lib.hid hsa
  have HSB := Lib.hid hsb
  have HA := Lib.hid hA
  have HB := Lib.hid hB
  clear hsa hsb hA hB
  obtain ⟨i0, hi, hz0, hz1, hz2⟩ := info_parts info_int
  go_enter Try.func18, Try.ntmps18
  go_wp2
  go_loopw [5, 6, 7] (fun o c i wr => ∃ k C : Nat, k ≤ P.length + Q.length + 1 ∧ (C = 0 ∨ k ≤ P.length ∨ k ≤ Q.length) ∧ i = .int .i64 k ∧ C ≤ 1 ∧ Hid (C = (sum16 P Q k).2) ∧ c = .int .i64 C ∧ Hid (wr.ownsRow w.heap.size 3 1 o k (ints (sum16 P Q k).1)) ∧ Below w.heap.size w wr) (fun _ _ i _ => P.length + Q.length + 2 - (intOf i).toNat)
  case atStart => exact ⟨0, 0, by omega, .inl rfl, rfl, by omega, Lib.hid rfl, rfl, Lib.hid (by simpa [ints, sum16] using World.ownsRow_nil w w.heap.size 3 1), Below.refl _ _⟩
  case round =>
    obtain ⟨k, C, hk, hCk, rfl, hC1, hC, rfl, hown, hBw⟩ := hrel
    have hlp := lim_lt hP (by decide) k
    have hlq := lim_lt hQ (by decide) k
    by_cases hp : k < P.length
    · obtain ⟨oa, rfl⟩ := HSA.out (by omega)
      have hca : wr.cell? ⟨ba, oa + k, none⟩ = some (.int .i64 (lim P k : Int)) := (hBw.cell (p := ⟨ba, oa + k, none⟩) hba).trans (HA.out.cell hp)
      by_cases hq : k < Q.length
      · obtain ⟨ob, rfl⟩ := HSB.out (by omega)
        have hcb : wr.cell? ⟨bb, ob + k, none⟩ = some (.int .i64 (lim Q k : Int)) := (hBw.cell (p := ⟨bb, ob + k, none⟩) hbb).trans (HB.out.cell hq)
        have hE : Hid ((((C : Int) + (lim P k : Int) + (lim Q k : Int)) % 65536 : Int) = (((C + lim P k + lim Q k) % 65536 : Nat) : Int)) := Lib.hid (by omega)
        have hE2 : Hid ((((C : Int) + (lim P k : Int) + (lim Q k : Int)) / 65536 : Int) = (((C + lim P k + lim Q k) / 65536 : Nat) : Int)) := Lib.hid (by omega)
        have hS1 : Hid ((sum16 P Q (k + 1)).1 = (sum16 P Q k).1 ++ [(C + lim P k + lim Q k) % 65536]) := Lib.hid (by simp only [sum16]; rw [← hC.out])
        have hS2 : Hid ((sum16 P Q (k + 1)).2 = (C + lim P k + lim Q k) / 65536) := Lib.hid (by simp only [sum16]; rw [← hC.out])
        have hS3 : (C + lim P k + lim Q k) / 65536 ≤ 1 := by omega
        go_wp2_with (at_builtin; refine wpList_append_own _ rfl _ _ 24 rfl w.heap.size 3 i0 (.int .i64 0) 1 8 Try.underlying24 hi hz0 hz1 hz2 rfl (by decide) _ _ _ rfl (hown.out.alloc _) ⟨_, 0, none⟩ 1 1 [.int .i64 (((C : Int) + (lim P k : Int) + (lim Q k : Int)) % 65536)] rfl rfl (cell_one_new _ _ _) (by intro u hu; simp at hu; subst hu; rfl) (by simp only [maxLen]; omega) (by omega) (by have := hBw.size; simp; omega) ?_; intro v' w1 hown' hgrow _)
        have hown3 : Hid (w1.ownsRow w.heap.size 3 1 v' (k + 1) (ints (sum16 P Q (k + 1)).1)) := Lib.hid (by rw [hS1.out, ← ints_snoc, ← hE.out]; exact hown')
        have hB3 : Below w.heap.size w w1 := (hBw.alloc hBw.size (.cells #[.int .i64 (((C : Int) + (lim P k : Int) + (lim Q k : Int)) % 65536)] 3)).grown hgrow (by have := hBw.size; simp; omega) (fun g e => (hown.out.lt g e).1)
        clear hown' hgrow
        go_wp2
        go_roundw
        case rel => exact ⟨k + 1, (C + lim P k + lim Q k) / 65536, by omega, .inr (.inl (by omega)), by simp, hS3, Lib.hid hS2.out.symm, congrArg (Value.int .i64) hE2.out, hown3, hB3⟩
        case measure => simp [intOf]; omega
      · have h0 : Hid (lim Q k = 0) := Lib.hid (lim_ge (by omega))
        have hE : Hid ((((C : Int) + (lim P k : Int)) % 65536 : Int) = (((C + lim P k) % 65536 : Nat) : Int)) := Lib.hid (by omega)
        have hE2 : Hid ((((C : Int) + (lim P k : Int)) / 65536 : Int) = (((C + lim P k) / 65536 : Nat) : Int)) := Lib.hid (by omega)
        have hS1 : Hid ((sum16 P Q (k + 1)).1 = (sum16 P Q k).1 ++ [(C + lim P k) % 65536]) := Lib.hid (by simp only [sum16]; rw [← hC.out, h0.out, Nat.add_zero])
        have hS2 : Hid ((sum16 P Q (k + 1)).2 = (C + lim P k) / 65536) := Lib.hid (by simp only [sum16]; rw [← hC.out, h0.out, Nat.add_zero])
        have hS3 : (C + lim P k) / 65536 ≤ 1 := by omega
        go_wp2_with (at_builtin; refine wpList_append_own _ rfl _ _ 24 rfl w.heap.size 3 i0 (.int .i64 0) 1 8 Try.underlying24 hi hz0 hz1 hz2 rfl (by decide) _ _ _ rfl (hown.out.alloc _) ⟨_, 0, none⟩ 1 1 [.int .i64 (((C : Int) + (lim P k : Int)) % 65536)] rfl rfl (cell_one_new _ _ _) (by intro u hu; simp at hu; subst hu; rfl) (by simp only [maxLen]; omega) (by omega) (by have := hBw.size; simp; omega) ?_; intro v' w1 hown' hgrow _)
        have hown3 : Hid (w1.ownsRow w.heap.size 3 1 v' (k + 1) (ints (sum16 P Q (k + 1)).1)) := Lib.hid (by rw [hS1.out, ← ints_snoc, ← hE.out]; exact hown')
        have hB3 : Below w.heap.size w w1 := (hBw.alloc hBw.size (.cells #[.int .i64 (((C : Int) + (lim P k : Int)) % 65536)] 3)).grown hgrow (by have := hBw.size; simp; omega) (fun g e => (hown.out.lt g e).1)
        clear hown' hgrow
        go_wp2
        go_roundw
        case rel => exact ⟨k + 1, (C + lim P k) / 65536, by omega, .inr (.inl (by omega)), by simp, hS3, Lib.hid hS2.out.symm, congrArg (Value.int .i64) hE2.out, hown3, hB3⟩
        case measure => simp [intOf]; omega
    · have h00 : Hid (lim P k = 0) := Lib.hid (lim_ge (by omega))
      by_cases hq : k < Q.length
      · obtain ⟨ob, rfl⟩ := HSB.out (by omega)
        have hcb : wr.cell? ⟨bb, ob + k, none⟩ = some (.int .i64 (lim Q k : Int)) := (hBw.cell (p := ⟨bb, ob + k, none⟩) hbb).trans (HB.out.cell hq)
        have hE : Hid ((((C : Int) + (lim Q k : Int)) % 65536 : Int) = (((C + lim Q k) % 65536 : Nat) : Int)) := Lib.hid (by omega)
        have hE2 : Hid ((((C : Int) + (lim Q k : Int)) / 65536 : Int) = (((C + lim Q k) / 65536 : Nat) : Int)) := Lib.hid (by omega)
        have hS1 : Hid ((sum16 P Q (k + 1)).1 = (sum16 P Q k).1 ++ [(C + lim Q k) % 65536]) := Lib.hid (by simp only [sum16]; rw [← hC.out, h00.out, Nat.add_zero])
        have hS2 : Hid ((sum16 P Q (k + 1)).2 = (C + lim Q k) / 65536) := Lib.hid (by simp only [sum16]; rw [← hC.out, h00.out, Nat.add_zero])
        have hS3 : (C + lim Q k) / 65536 ≤ 1 := by omega
        go_wp2_with (at_builtin; refine wpList_append_own _ rfl _ _ 24 rfl w.heap.size 3 i0 (.int .i64 0) 1 8 Try.underlying24 hi hz0 hz1 hz2 rfl (by decide) _ _ _ rfl (hown.out.alloc _) ⟨_, 0, none⟩ 1 1 [.int .i64 (((C : Int) + (lim Q k : Int)) % 65536)] rfl rfl (cell_one_new _ _ _) (by intro u hu; simp at hu; subst hu; rfl) (by simp only [maxLen]; omega) (by omega) (by have := hBw.size; simp; omega) ?_; intro v' w1 hown' hgrow _)
        have hown3 : Hid (w1.ownsRow w.heap.size 3 1 v' (k + 1) (ints (sum16 P Q (k + 1)).1)) := Lib.hid (by rw [hS1.out, ← ints_snoc, ← hE.out]; exact hown')
        have hB3 : Below w.heap.size w w1 := (hBw.alloc hBw.size (.cells #[.int .i64 (((C : Int) + (lim Q k : Int)) % 65536)] 3)).grown hgrow (by have := hBw.size; simp; omega) (fun g e => (hown.out.lt g e).1)
        clear hown' hgrow
        go_wp2
        go_roundw
        case rel => exact ⟨k + 1, (C + lim Q k) / 65536, by omega, .inr (.inr (by omega)), by simp, hS3, Lib.hid hS2.out.symm, congrArg (Value.int .i64) hE2.out, hown3, hB3⟩
        case measure => simp [intOf]; omega
      · have h0 : Hid (lim Q k = 0) := Lib.hid (lim_ge (by omega))
        by_cases hc0 : 0 < C
        · skip
          have hE : Hid ((((C : Int)) % 65536 : Int) = (((C) % 65536 : Nat) : Int)) := Lib.hid (by omega)
          have hE2 : Hid ((((C : Int)) / 65536 : Int) = (((C) / 65536 : Nat) : Int)) := Lib.hid (by omega)
          have hS1 : Hid ((sum16 P Q (k + 1)).1 = (sum16 P Q k).1 ++ [(C) % 65536]) := Lib.hid (by simp only [sum16]; rw [← hC.out, h0.out, h00.out, Nat.add_zero])
          have hS2 : Hid ((sum16 P Q (k + 1)).2 = (C) / 65536) := Lib.hid (by simp only [sum16]; rw [← hC.out, h0.out, h00.out, Nat.add_zero])
          have hS3 : (C) / 65536 ≤ 1 := by omega
          go_wp2_with (at_builtin; refine wpList_append_own _ rfl _ _ 24 rfl w.heap.size 3 i0 (.int .i64 0) 1 8 Try.underlying24 hi hz0 hz1 hz2 rfl (by decide) _ _ _ rfl (hown.out.alloc _) ⟨_, 0, none⟩ 1 1 [.int .i64 (((C : Int)) % 65536)] rfl rfl (cell_one_new _ _ _) (by intro u hu; simp at hu; subst hu; rfl) (by simp only [maxLen]; omega) (by omega) (by have := hBw.size; simp; omega) ?_; intro v' w1 hown' hgrow _)
          have hown3 : Hid (w1.ownsRow w.heap.size 3 1 v' (k + 1) (ints (sum16 P Q (k + 1)).1)) := Lib.hid (by rw [hS1.out, ← ints_snoc, ← hE.out]; exact hown')
          have hB3 : Below w.heap.size w w1 := (hBw.alloc hBw.size (.cells #[.int .i64 (((C : Int)) % 65536)] 3)).grown hgrow (by have := hBw.size; simp; omega) (fun g e => (hown.out.lt g e).1)
          clear hown' hgrow
          go_wp2
          go_roundw
          case rel => exact ⟨k + 1, (C) / 65536, by omega, .inl (by omega), by simp, hS3, Lib.hid hS2.out.symm, congrArg (Value.int .i64) hE2.out, hown3, hB3⟩
          case measure => simp [intOf]; omega
        · obtain rfl : C = 0 := by omega
          have h4 := hown.out
          obtain ⟨S, hS, hr⟩ := own_arg h4 (Nat.lt_of_lt_of_le hba hBw.size)
          obtain ⟨f1, _, _, _⟩ := sum16_fine hP hQ k
          have hl : (sum16 P Q k).1.length ≤ 9223372036854775806 := by omega
          have HF : Hid (cutz (sum16 P Q k).1 = digs 65536 (M + N)) := Lib.hid (hfin.out k (by omega) (by omega) hC.out.symm)
          have HR := Lib.hid hr
          obtain ⟨xa, xc, rfl, _, _⟩ := hr.slice
          clear hr h4 f1
          go_wp2_with (go_at_call 51; refine (cut_calls S _ (sum16 P Q k).1 hl _ HR.out).mono ?_; rintro e w' ⟨v', rfl, h7, rfl⟩)
          go_ret
          exact ⟨_, rfl, ⟨S, hS, by rw [← HF.out]; exact h7⟩, hBw⟩
end Go.Proofs.Ytppbifijgkcpjaa
