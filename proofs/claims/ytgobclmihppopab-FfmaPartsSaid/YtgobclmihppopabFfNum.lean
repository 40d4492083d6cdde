/- Products and sums at once: plain numbers. -/
import Derived.Test.YtgobclmihppopabFdNum
import Derived.Test.YtgobclmihppopabRefFma
namespace Go.Proofs.Ytgobclmihppopab

theorem inf_bits {a : Nat} (ha : a < 18446744073709551616) (h : cls a = 2) : a = infB (neg6 a) := by
  have hb := bits_eq ha
  unfold cls at h
  split at h
  · rename_i h1
    split at h
    · rename_i h2
      rw [h1, h2] at hb
      unfold infB
      omega
    · omega
  · split at h <;> omega
theorem neg_ne_false (b : Bool) : (b != false) = b := by cases b <;> rfl
theorem sv_eq_zero {b : Bool} {n : Nat} (h : sv b n = 0) : n = 0 := by cases b <;> simp [sv] at h <;> omega
/-- with 0 added it is the product, but for a 0's sign -/
theorem rfma_zero {a b : Nat} {mode : Int} : (rfma a b 0 mode).2 = (rmul a b mode).2 ∧ ((rfma a b 0 mode).1 = (rmul a b mode).1 ∨ ∃ s t, (rfma a b 0 mode).1 = sgn s ∧ (rmul a b mode).1 = sgn t) := by
  have c0 : cls 0 = 0 := cls_zero
  unfold rfma rmul
  rw [c0]
  by_cases h1 : cls a = 3 ∨ cls b = 3
  · rw [if_pos h1, if_pos h1]; exact ⟨rfl, .inl rfl⟩
  · rw [if_neg h1, if_neg h1]
    by_cases h2 : cls a = 2 ∧ cls b = 0 ∨ cls a = 0 ∧ cls b = 2
    · rw [if_pos h2, if_pos h2]; exact ⟨rfl, .inl rfl⟩
    · rw [if_neg h2, if_neg h2, if_neg (by omega)]
      by_cases h3 : cls a = 2 ∨ cls b = 2
      · rw [if_pos h3, if_pos h3, if_neg (by omega)]; exact ⟨rfl, .inl rfl⟩
      · rw [if_neg h3, if_neg h3, if_neg (by omega)]
        have hx := cls_le a
        have hy := cls_le b
        have e1 : neg6 0 = false := by decide
        have e2 : sig 0 = 0 := by decide
        have e3 : xpo 0 = -1074 := by decide
        rw [e1, e2, e3]
        obtain ⟨P, hP⟩ : ∃ P, P = sig a * sig b := ⟨_, rfl⟩
        obtain ⟨z, hz⟩ : ∃ z, z = xpo a + xpo b := ⟨_, rfl⟩
        obtain ⟨ng, hng⟩ : ∃ ng, ng = (neg6 a != neg6 b) := ⟨_, rfl⟩
        rw [← hP, ← hz, ← hng]
        obtain ⟨d, hd⟩ : ∃ d : Nat, z - min z (-1074) = d := ⟨(z - min z (-1074)).toNat, by omega⟩
        have hS : ssum ng P z false 0 (-1074) = sv ng (P * 2 ^ d) := by
          unfold ssum
          rw [upper_zero, sv_zero, upper_at P d hd, Int.add_zero]
        by_cases h4 : cls a = 0 ∨ cls b = 0
        · rw [if_pos h4]
          have hP0 : P = 0 := by
            rw [hP]
            rcases h4 with h4 | h4
            · rw [(cls_zero_iff (by omega)).1 h4, Nat.zero_mul]
            · rw [(cls_zero_iff (by omega)).1 h4, Nat.mul_zero]
          unfold rsum
          rw [hS, hP0, Nat.zero_mul, sv_zero, if_pos rfl]
          by_cases h5 : ng = false
          · rw [if_pos h5]; exact ⟨rfl, .inr ⟨_, _, rfl, rfl⟩⟩
          · rw [if_neg h5]; exact ⟨rfl, .inr ⟨_, _, rfl, rfl⟩⟩
        · rw [if_neg h4]
          have hPp : 0 < P := by rw [hP]; exact Nat.mul_pos (sig_pos (by omega)) (sig_pos (by omega))
          obtain ⟨d1, d2, d3⟩ := decide_sv (neg := ng) (Nat.mul_pos hPp (Nat.two_pow_pos d))
          unfold rsum
          rw [hS, if_neg d3, d1, d2, rnd_scale hPp (by decide), show min z (-1074) + (d : Int) = z by omega]
          exact ⟨rfl, .inl rfl⟩
/-- shifted down together, a sum is the same -/
theorem rsum_down {neg other : Bool} {m k j : Nat} {p q mode : Int} : rsum neg (m * 2 ^ j) (p - j) other k q mode = rsum neg m p other k q mode := by
  obtain ⟨e, he⟩ : ∃ e, e = min p q := ⟨_, rfl⟩
  obtain ⟨e', he'⟩ : ∃ e', e' = min (p - j) q := ⟨_, rfl⟩
  obtain ⟨u, hu⟩ : ∃ u : Nat, p - e = u := ⟨(p - e).toNat, by omega⟩
  obtain ⟨v, hv⟩ : ∃ v : Nat, q - e = v := ⟨(q - e).toNat, by omega⟩
  obtain ⟨d, hd⟩ : ∃ d : Nat, e - e' = d := ⟨(e - e').toNat, by omega⟩
  obtain ⟨u', hu'⟩ : ∃ u' : Nat, p - j - e' = u' := ⟨(p - j - e').toNat, by omega⟩
  have hS : ssum neg (m * 2 ^ j) (p - j) other k q = ssum neg m p other k q * ((2 ^ d : Nat) : Int) := by
    unfold ssum
    rw [← he, ← he', upper_at (m * 2 ^ j) u' hu', upper_at k (v + d) (by omega), upper_at m u hu, upper_at k v hv, Int.add_mul, ← sv_mul, ← sv_mul]
    congr 2
    · rw [Nat.mul_assoc, Nat.mul_assoc, ← Nat.pow_add, ← Nat.pow_add, show j + u' = u + d by omega]
    · rw [Nat.mul_assoc, ← Nat.pow_add]
  have hp : 0 < 2 ^ d := Nat.two_pow_pos d
  unfold rsum
  rw [hS, ← he, ← he']
  generalize ssum neg m p other k q = S at *
  by_cases h0 : S = 0
  · subst h0
    rw [Int.zero_mul, if_pos rfl, if_pos rfl]
  · have h1 : S * ((2 ^ d : Nat) : Int) ≠ 0 := by
      intro h
      rcases Int.mul_eq_zero.1 h with h | h <;> omega
    rw [if_neg h1, if_neg h0]
    have h2 : decide (S * ((2 ^ d : Nat) : Int) < 0) = decide (S < 0) := by
      by_cases hs : S < 0
      · rw [decide_eq_true hs, decide_eq_true (Int.mul_neg_of_neg_of_pos hs (by omega))]
      · rw [decide_eq_false hs, decide_eq_false (by have := Int.mul_nonneg (show 0 ≤ S by omega) (show (0 : Int) ≤ ((2 ^ d : Nat) : Int) by omega); omega)]
    rw [h2, Int.natAbs_mul, Int.natAbs_natCast, rnd_scale (by omega) (by decide)]
    congr 1
    omega
/-- by 1 it is the sum -/
theorem rfma_one {a b : Nat} {mode : Int} (ha : a < 18446744073709551616) (hb : b < 18446744073709551616) : rfma a 4607182418800017408 b mode = radd a b mode := by
  have c1 : cls 4607182418800017408 = 1 := by decide
  have e1 : neg6 4607182418800017408 = false := by decide
  have e2 : sig 4607182418800017408 = 2 ^ 52 := by decide
  have e3 : xpo 4607182418800017408 = -((52 : Nat) : Int) := by decide
  unfold rfma radd
  rw [c1, e1, e2, e3, neg_ne_false]
  by_cases h1 : cls a = 3
  · rw [if_pos (.inl h1), if_pos (.inl h1)]
  · by_cases h2 : cls b = 3
    · rw [if_neg (by omega), if_neg (by omega), if_pos h2, if_pos (.inr h2)]
    · have n1 : ¬ (cls a = 3 ∨ (1 : Nat) = 3) := by omega
      have n2 : ¬ (cls a = 2 ∧ (1 : Nat) = 0 ∨ cls a = 0 ∧ (1 : Nat) = 2) := by omega
      have n3 : ¬ (cls a = 3 ∨ cls b = 3) := by omega
      rw [if_neg n1, if_neg n2, if_neg h2, if_neg n3]
      by_cases h3 : cls a = 2
      · have hia := inf_bits ha h3
        rw [if_pos (.inl h3)]
        by_cases h4 : cls b = 2
        · by_cases h5 : a = b
          · subst h5
            rw [if_neg (fun h => h.2 hia), if_neg (fun h => h.2.2 rfl), if_pos h3, ← hia]
          · have n4 : b ≠ infB (neg6 a) := by rw [← hia]; exact fun h => h5 h.symm
            rw [if_pos ⟨h4, n4⟩, if_pos ⟨h3, h4, h5⟩]
        · rw [if_neg (fun h => h4 h.1), if_neg (fun h => h4 h.2.1), if_pos h3, ← hia]
      · have n5 : ¬ (cls a = 2 ∨ (1 : Nat) = 2) := by omega
        have n6 : ¬ (cls a = 2 ∧ cls b = 2 ∧ a ≠ b) := fun h => h3 h.1
        rw [if_neg n5, if_neg n6, if_neg h3]
        by_cases h4 : cls b = 2
        · rw [if_pos h4, if_pos h4]
        · rw [if_neg h4, if_neg h4]
          exact rsum_down
theorem rfma_lt {a b c : Nat} {mode : Int} (hc : c ≤ 18446744073709551615) : (rfma a b c mode).1 ≤ 18446744073709551615 := by
  have hI : ∀ s, infB s ≤ 18446744073709551615 := fun s => by cases s <;> decide
  unfold rfma
  split
  · decide
  · split
    · decide
    · split
      · decide
      · split
        · split
          · decide
          · exact hI _
        · split
          · exact hc
          · exact rsum_lt
/-- a dot, one by one, with all flags -/
def fdotN (mode : Int) (xs ys : List Nat) : Nat → Nat × Int
  | 0 => (0, 0)
  | k + 1 => ((rfma (lim xs k) (lim ys k) (fdotN mode xs ys k).1 mode).1, bits .or .i64 (fdotN mode xs ys k).2 ((rfma (lim xs k) (lim ys k) (fdotN mode xs ys k).1 mode).2 : Int))
theorem fdotN_lt (mode : Int) (xs ys : List Nat) (k : Nat) : (fdotN mode xs ys k).1 ≤ 18446744073709551615 := by
  induction k with
  | zero => exact Nat.zero_le _
  | succ k ih => exact rfma_lt ih
end Go.Proofs.Ytgobclmihppopab
