/- Products and powers of two: plain numbers. -/
import Derived.Test.YtjiilechfjkkfaaFaExactNum
import Derived.Test.YtjiilechfjkkfaaRefMul
namespace Go.Proofs.Ytjiilechfjkkfaa

theorem rmul_comm (a b : Nat) (mode : Int) : rmul a b mode = rmul b a mode := by
  have hn : (neg6 a != neg6 b) = (neg6 b != neg6 a) := by cases neg6 a <;> cases neg6 b <;> rfl
  unfold rmul
  rw [hn, Nat.mul_comm (sig a), Int.add_comm (xpo a)]
  have c1 : (cls a = 3 ∨ cls b = 3) = (cls b = 3 ∨ cls a = 3) := by rw [or_comm]
  have c2 : (cls a = 2 ∧ cls b = 0 ∨ cls a = 0 ∧ cls b = 2) = (cls b = 2 ∧ cls a = 0 ∨ cls b = 0 ∧ cls a = 2) := propext ⟨by omega, by omega⟩
  have c3 : (cls a = 2 ∨ cls b = 2) = (cls b = 2 ∨ cls a = 2) := by rw [or_comm]
  have c4 : (cls a = 0 ∨ cls b = 0) = (cls b = 0 ∨ cls a = 0) := by rw [or_comm]
  simp only [c1, c2, c3, c4]
theorem cls_zero_iff {a : Nat} (hc : cls a ≤ 1) : cls a = 0 ↔ sig a = 0 := by
  have h1 := ff_lt a
  unfold cls at *
  unfold sig
  by_cases h : fe a = 2047
  · rw [if_pos h] at hc; split at hc <;> omega
  · rw [if_neg h]
    by_cases h2 : fe a = 0
    · rw [if_pos h2]
      by_cases h3 : ff a = 0
      · rw [if_pos ⟨h2, h3⟩]; omega
      · rw [if_neg (by omega)]; omega
    · rw [if_neg (by omega), if_neg h2]; omega
theorem rmul_one {a : Nat} {mode : Int} (ha : a < 18446744073709551616) (hc : cls a ≤ 1) : rmul a 4607182418800017408 mode = (a, 0) := by
  have c1 : cls 4607182418800017408 = 1 := by decide
  have e1 : neg6 4607182418800017408 = false := by decide
  have e2 : sig 4607182418800017408 = 4503599627370496 := by decide
  have e3 : xpo 4607182418800017408 = -52 := by decide
  have hn : (neg6 a != false) = neg6 a := by cases neg6 a <;> rfl
  unfold rmul
  rw [c1, e1, e2, e3, hn, if_neg (by omega), if_neg (by omega), if_neg (by omega)]
  by_cases h0 : cls a = 0
  · rw [if_pos (.inl h0)]
    obtain ⟨z1, _⟩ := sig_zero ha ((cls_zero_iff hc).1 h0)
    rw [← z1]
  · rw [if_neg (by omega)]
    exact rnd_is (k := 52) ha (cls_fin.1 hc) (fun h => h0 ((cls_zero_iff hc).2 h)) (.inl ⟨rfl, rfl⟩)
theorem rmul_zero {a : Nat} {mode : Int} (hc : cls a ≤ 1) : ∃ s, rmul a 0 mode = (sgn s, 0) := by
  unfold rmul
  rw [cls_zero, if_neg (by omega), if_neg (by omega), if_neg (by omega), if_pos (.inr rfl)]
  exact ⟨_, rfl⟩
theorem rmul_lt {a b : Nat} {mode : Int} : (rmul a b mode).1 ≤ 18446744073709551615 := by
  have hI : ∀ s, infB s ≤ 18446744073709551615 := fun s => by cases s <;> decide
  have hx := cls_le a
  have hy := cls_le b
  unfold rmul
  split
  · decide
  · split
    · decide
    · split
      · exact hI _
      · split
        · exact sgn_lt _
        · exact rnd_lt _ (Nat.mul_pos (sig_pos (by omega)) (sig_pos (by omega))) (by decide) _ _
/-- times a power of two -/
def clampS (n : Int) : Int := min (max n (-8192)) 8192
def rscale (a : Nat) (n mode : Int) : Nat × Nat :=
  if cls a = 3 then (9221120237041090560, 0) else if cls a ≠ 1 then (a, 0) else rnd (neg6 a) (sig a) 1 (xpo a + clampS n) mode
theorem rscale_lt {a : Nat} {n mode : Int} (ha : a ≤ 18446744073709551615) : (rscale a n mode).1 ≤ 18446744073709551615 := by
  unfold rscale
  split
  · decide
  · split
    · exact ha
    · exact rnd_lt _ (sig_pos (by omega)) (by decide) _ _
theorem rnd_neg {neg : Bool} {num den b : Nat} {exp mode : Int} (hn : 0 < num) (hd : 0 < den) (h : rnd neg num den exp mode = (b, 0)) : neg6 b = neg ∧ b < 18446744073709551616 := by
  have hf := rexp_fits hn hd exp
  unfold rnd at h
  rw [fin_eq hf] at h
  generalize (if rup neg mode (qat num den exp (rexp num den exp)) (decide (rst num den (exp - rexp num den exp) ≠ 0)) (cmpN (2 * rst num den (exp - rexp num den exp)) (lower den (exp - rexp num den exp))) then qat num den exp (rexp num den exp) + 1 else qat num den exp (rexp num den exp)) = q1 at h
  generalize (rexp num den exp + 1074).toNat * 4503599627370496 = t at h
  by_cases hb : 9218868437227405312 ≤ t + q1
  · rw [if_pos hb] at h
    unfold rbig at h
    split at h <;> simp at h
  · rw [if_neg hb] at h
    simp only [Prod.mk.injEq] at h
    obtain ⟨rfl, _⟩ := h
    refine ⟨?_, ?_⟩
    · unfold neg6 sgn
      cases neg
      · exact decide_eq_false (by simp; omega)
      · exact decide_eq_true (by simp; omega)
    · unfold sgn; split <;> omega
/-- what is told without a flag, scaled back, is the number -/
theorem rscale_back {a x : Nat} {n : Int} (ha : a < 18446744073709551616) (hc : cls a = 1) (h1 : -2000 ≤ n) (h2 : n ≤ 2000) (hx : rscale a n 0 = (x, 0)) : rscale x (-n) 0 = (a, 0) := by
  have hcl : clampS n = n := by unfold clampS; omega
  have hcl' : clampS (-n) = -n := by unfold clampS; omega
  have hfa : fe a ≠ 2047 := cls_fin.1 (by omega)
  have hsa := sig_pos hc
  unfold rscale at hx
  rw [if_neg (by omega), if_neg (by omega), hcl] at hx
  obtain ⟨k1, k2, k3, k4⟩ := rnd_exact hsa hx
  obtain ⟨k5, k6⟩ := rnd_neg hsa (by decide) hx
  have hz : sig x ≠ 0 := by
    intro h0
    rw [h0, Nat.zero_mul] at k1
    have : 0 < upper (sig a) (xpo a + n - xpo x) := Nat.mul_pos hsa (pw_pos _)
    omega
  have hcx : cls x = 1 := by
    have hc1 := cls_of_fe k2
    have hne : cls x ≠ 0 := fun hh => hz ((cls_zero_iff hc1).1 hh)
    omega
  unfold rscale
  rw [if_neg (by omega), if_neg (by omega), hcl', k5]
  unfold upper lower pw at k1
  rw [Nat.one_mul] at k1
  by_cases hd : 0 ≤ xpo a + n - xpo x
  · obtain ⟨j, hj⟩ : ∃ j : Nat, xpo a + n - xpo x = j := ⟨(xpo a + n - xpo x).toNat, by omega⟩
    rw [show (-(xpo a + n - xpo x)).toNat = 0 by omega, hj, Int.toNat_natCast, Nat.pow_zero, Nat.mul_one] at k1
    exact rnd_is (k := j) ha hfa (by omega) (.inl ⟨k1.symm, by omega⟩)
  · obtain ⟨j, hj⟩ : ∃ j : Nat, -(xpo a + n - xpo x) = j := ⟨(-(xpo a + n - xpo x)).toNat, by omega⟩
    rw [show (xpo a + n - xpo x).toNat = 0 by omega, hj, Int.toNat_natCast, Nat.pow_zero, Nat.mul_one] at k1
    exact rnd_is (k := j) ha hfa (by omega) (.inr ⟨k1.symm, by omega⟩)
end Go.Proofs.Ytjiilechfjkkfaa
