/- Products and sums in words: plain numbers. No program is named here. -/
import Derived.Test.YtjapilpjahhimaaStk
namespace Go.Proofs.Ytjapilpjahhimaa

theorem rsum_zeros {neg other : Bool} {p q mode : Int} : rsum neg 0 p other 0 q mode = (if neg = other then sgn neg else sgn (decide (mode = 4)), 0) := by
  have h : ssum neg 0 p other 0 q = 0 := by
    unfold ssum upper
    rw [Nat.zero_mul, Nat.zero_mul]
    cases neg <;> cases other <;> rfl
  unfold rsum
  rw [if_pos h]
  split <;> rfl
theorem rsum_left {neg other : Bool} {m : Nat} {p q mode : Int} (hm : 0 < m) : rsum neg m p other 0 q mode = rnd neg m 1 p mode := by
  obtain ⟨d, hd⟩ : ∃ d : Nat, p - min p q = d := ⟨(p - min p q).toNat, by omega⟩
  have hS : ssum neg m p other 0 q = sv neg (m * 2 ^ d) := by
    have h0 : sv other (upper 0 (q - min p q)) = 0 := by
      unfold upper
      rw [Nat.zero_mul]
      cases other <;> rfl
    unfold ssum
    rw [h0, hd, upper_nat, Int.add_zero]
  have hp : 0 < m * 2 ^ d := Nat.mul_pos hm (Nat.two_pow_pos _)
  have d1 : decide (sv neg (m * 2 ^ d) < 0) = neg ∧ (sv neg (m * 2 ^ d)).natAbs = m * 2 ^ d ∧ sv neg (m * 2 ^ d) ≠ 0 := by
    generalize m * 2 ^ d = S at *
    cases neg
    · refine ⟨decide_eq_false ?_, ?_, ?_⟩ <;> simp [sv] <;> omega
    · refine ⟨decide_eq_true ?_, ?_, ?_⟩ <;> simp [sv] <;> omega
  unfold rsum
  rw [hS, if_neg d1.2.2, d1.1, d1.2.1, rnd_scale hm (by decide)]
  congr 1
  omega
theorem big_126 : (2 : Nat) ^ 126 = 4611686018427387904 * 18446744073709551616 := by decide
/-- the lower one of two, told in units of the upper one's -/
theorem ff_sum {neg : Bool} {P Q g hi lo : Nat} {p q mode : Int} (hp : p = q + g) (hP : 2 ^ 126 ≤ P) (p1 : -16384 ≤ p) (p2 : p ≤ 16384)
    (hN : hi * 18446744073709551616 + lo = P + Q / 2 ^ g) :
    rsum neg P p neg Q q mode = prnd neg hi lo p (decide (Q % 2 ^ g ≠ 0)) mode := by
  have hb := big_126
  generalize (2 : Nat) ^ 126 = B at *
  have hc : 0 < 2 ^ g := Nat.two_pow_pos g
  have hz : P ≤ P * 2 ^ g := Nat.le_mul_of_pos_right _ hc
  have hdm := Nat.div_add_mod Q (2 ^ g)
  have hr : Q % 2 ^ g < 2 ^ g := Nat.mod_lt _ hc
  obtain ⟨N, hN'⟩ : ∃ N, N = hi * 18446744073709551616 + lo := ⟨_, rfl⟩
  rw [← hN'] at hN
  have hNB : B ≤ N := by
    generalize Q / 2 ^ g = D at *
    omega
  have e : P * 2 ^ g + Q = N * 2 ^ g + Q % 2 ^ g := by
    rw [hN, Nat.add_mul, Nat.mul_comm (Q / 2 ^ g)]
    generalize P * 2 ^ g = Z at *
    generalize 2 ^ g * (Q / 2 ^ g) = Y at *
    omega
  have hpos : P * 2 ^ g + Q ≠ 0 := by
    generalize P * 2 ^ g = Z at *
    omega
  rw [rsum_like hp, if_neg hpos, e]
  have hk : p + 1 ≤ rx N p := by
    have h1 := rx_ge N p
    have h2 := nbits_ge (N := N) (k := 62) (by omega)
    omega
  clear hN e hpos hz
  by_cases h0 : Q % 2 ^ g = 0
  · have r1 := rnd_scale (neg := neg) (num := N) (den := 1) (k := g) (exp := q) (mode := mode) (by omega) (by decide)
    rw [decide_eq_false (by omega), prnd_plain (by omega) p1 p2, h0, Nat.add_zero, r1, ← hN', hp]
  · rw [decide_eq_true h0, prnd_more (by omega) p1 p2, ← hN', show q = p - (g : Int) by omega]
    exact rnd_stick (by omega) (by omega) hr hk
theorem ff_dif {neg other : Bool} {P Q g hi lo : Nat} {p q mode : Int} (hs : neg ≠ other) (hp : p = q + g) (hP : 2 ^ 126 ≤ P) (hQ : Q < 2 * 2 ^ 126) (p1 : -16384 ≤ p) (p2 : p ≤ 16384)
    (hle : Q ≤ P * 2 ^ g) (hg : Q % 2 ^ g ≠ 0 → 2 ≤ g) (hN : hi * 18446744073709551616 + lo + Q / 2 ^ g + (if Q % 2 ^ g ≠ 0 then 1 else 0) = P) :
    rsum neg P p other Q q mode = if hi * 18446744073709551616 + lo = 0 then (sgn (decide (mode = 4)), 0) else prnd neg hi lo p (decide (Q % 2 ^ g ≠ 0)) mode := by
  have hb := big_126
  generalize (2 : Nat) ^ 126 = B at *
  have hc : 0 < 2 ^ g := Nat.two_pow_pos g
  have hdm := Nat.div_add_mod Q (2 ^ g)
  have hr : Q % 2 ^ g < 2 ^ g := Nat.mod_lt _ hc
  have hcm : Q / 2 ^ g * 2 ^ g = 2 ^ g * (Q / 2 ^ g) := Nat.mul_comm _ _
  rw [rsum_unlike hp hs hle]
  by_cases h0 : Q % 2 ^ g = 0
  · rw [if_neg (by omega), Nat.add_zero] at hN
    have e : P * 2 ^ g - Q = (hi * 18446744073709551616 + lo) * 2 ^ g := by
      rw [← hN, Nat.add_mul]
      omega
    rw [e]
    by_cases h1 : hi * 18446744073709551616 + lo = 0
    · rw [if_pos h1, if_pos (by rw [h1, Nat.zero_mul])]
    · rw [if_neg h1, if_neg (Nat.mul_ne_zero h1 (by omega)), decide_eq_false (by omega), prnd_plain h1 p1 p2, rnd_scale (by omega) (by decide)]
      congr 1
      omega
  · rw [if_pos h0] at hN
    have h2 := hg h0
    have hq4 : 2 * (Q / 2 ^ g) < B := by
      obtain ⟨j, rfl⟩ : ∃ j, g = j + 2 := ⟨g - 2, by omega⟩
      have h5 : Q / 2 ^ (j + 2) ≤ Q / 4 := by
        rw [Nat.pow_add, Nat.mul_comm, ← Nat.div_div_eq_div_mul]
        exact Nat.div_le_self _ _
      omega
    obtain ⟨N, hN'⟩ : ∃ N, N = hi * 18446744073709551616 + lo := ⟨_, rfl⟩
    rw [← hN'] at hN ⊢
    have hNb : B / 4 ≤ N := by omega
    have e : P * 2 ^ g - Q = N * 2 ^ g + (2 ^ g - Q % 2 ^ g) := by
      rw [← hN, Nat.add_mul, Nat.add_mul, Nat.one_mul]
      omega
    have hk : p + 1 ≤ rx N p := by
      have h1 := rx_ge N p
      have h2 := nbits_ge (N := N) (k := 62) (by omega)
      omega
    rw [e, if_neg (by omega), if_neg (by omega), decide_eq_true h0, prnd_more (by omega) p1 p2, ← hN', show q = p - (g : Int) by omega]
    exact rnd_stick (by omega) (by omega) (by omega) hk
end Go.Proofs.Ytjapilpjahhimaa
