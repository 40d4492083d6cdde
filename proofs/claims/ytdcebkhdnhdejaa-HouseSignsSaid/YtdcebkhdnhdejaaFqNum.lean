/- Roots of squares: plain numbers. -/
import Derived.Test.YtdcebkhdnhdejaaRefSqrt
import Derived.Test.YtdcebkhdnhdejaaFdNum
import Derived.Test.YtdcebkhdnhdejaaStk
namespace Go.Proofs.Ytdcebkhdnhdejaa

theorem sq_one {n r s : Nat} (h1 : r * r ≤ n) (h2 : n < (r + 1) * (r + 1)) (h3 : s * s = n) : r = s := by
  rcases Nat.lt_trichotomy r s with h | h | h
  · have : (r + 1) * (r + 1) ≤ s * s := Nat.mul_le_mul h h
    omega
  · exact h
  · have : (s + 1) * (s + 1) ≤ r * r := Nat.mul_le_mul h h
    have : s * s < (s + 1) * (s + 1) := Nat.mul_lt_mul'' (by omega) (by omega)
    omega
/-- the root of a square is the number -/
theorem rsqrt_square {a p u v : Nat} {mode : Int} (ha : a < 18446744073709551616) (na : neg6 a = false) (ca : cls a = 1) (np : neg6 p = false) (cp : cls p = 1)
    (h : sig a * sig a * 2 ^ u = sig p * 2 ^ v) (he : xpo a + xpo a - xpo p = (u : Int) - v) : rsqrt p mode = (a, 0) := by
  have hfa : fe a ≠ 2047 := cls_fin.1 (by omega)
  have hsa := sig_pos ca
  have hsp := sig_pos cp
  have hsa2 := (sig_fits hfa).1.2.1
  have hfp : fe p ≠ 2047 := cls_fin.1 (by omega)
  have hsp2 := (sig_fits hfp).1.2.1
  unfold rsqrt
  rw [if_neg (by omega), if_neg (by omega), np, if_neg Bool.false_ne_true, if_neg (by omega)]
  unfold rootN
  obtain ⟨f1, f2, f3, f4⟩ := sqt_facts (m := sig p) (x := xpo p)
  generalize sqt (sig p) (xpo p) = T at *
  have hb := nbits_shift hsp T
  have hN0 : 0 < sig p * 2 ^ T := Nat.mul_pos hsp (Nat.two_pow_pos _)
  obtain ⟨k1, k2, k3⟩ := nbits_bounds (Nat.ne_of_gt hN0)
  have hnp : nbits (sig p) ≤ 53 := nbits_le (show sig p < 2 ^ 53 from hsp2)
  have hN1 : sig p * 2 ^ T < (0 + 2 ^ 71) * (0 + 2 ^ 71) := by
    have h2 : 2 ^ nbits (sig p * 2 ^ T) ≤ 2 ^ 121 := Nat.pow_le_pow_right (by decide) (by omega)
    have h3 : (2 : Nat) ^ 121 < (0 + 2 ^ 71) * (0 + 2 ^ 71) := by decide
    omega
  have hN2 : 2 ^ 119 ≤ sig p * 2 ^ T := Nat.le_trans (Nat.pow_le_pow_right (by decide) (by omega)) k2
  obtain ⟨y, hy⟩ : ∃ y, xpo p - (T : Int) = 2 * y := ⟨(xpo p - (T : Int)) / 2, by omega⟩
  rw [hy, show (2 * y) / 2 = y by omega]
  have hd0 : 0 ≤ xpo a - y := by
    refine Int.not_lt.1 fun hh => ?_
    have hv : u + T + 1 ≤ v := by omega
    obtain ⟨w, rfl⟩ : ∃ w, v = u + T + w := ⟨v - (u + T), by omega⟩
    rw [Nat.pow_add, Nat.pow_add, ← Nat.mul_assoc, ← Nat.mul_assoc, Nat.mul_right_comm (sig p) (2 ^ u) (2 ^ T)] at h
    have h5 : sig a * sig a * 2 ^ u = sig p * 2 ^ T * 2 ^ w * 2 ^ u := by rw [h]; exact Nat.mul_right_comm _ _ _
    have h6 : sig a * sig a = sig p * 2 ^ T * 2 ^ w := Nat.eq_of_mul_eq_mul_right (Nat.two_pow_pos u) h5
    have h7 : sig p * 2 ^ T * 1 ≤ sig p * 2 ^ T * 2 ^ w := Nat.mul_le_mul_left _ (Nat.two_pow_pos w)
    have h8 : sig a * sig a ≤ 9007199254740992 * 9007199254740992 := Nat.mul_le_mul (by omega) (by omega)
    have h9 : 9007199254740992 * 9007199254740992 < (2 : Nat) ^ 119 := by decide
    omega
  obtain ⟨d, hd⟩ : ∃ d : Nat, xpo a - y = d := ⟨(xpo a - y).toNat, by omega⟩
  have hsqr : (sig a * 2 ^ d) * (sig a * 2 ^ d) = sig p * 2 ^ T := by
    refine Nat.eq_of_mul_eq_mul_right (Nat.two_pow_pos v) ?_
    have e : d + d + v = u + T := by omega
    calc sig a * 2 ^ d * (sig a * 2 ^ d) * 2 ^ v = sig a * sig a * (2 ^ d * 2 ^ d * 2 ^ v) := by simp only [Nat.mul_comm, Nat.mul_left_comm, Nat.mul_assoc]
      _ = sig a * sig a * (2 ^ u * 2 ^ T) := by rw [← Nat.pow_add, ← Nat.pow_add, e, Nat.pow_add]
      _ = sig a * sig a * 2 ^ u * 2 ^ T := by rw [Nat.mul_assoc (sig a * sig a)]
      _ = sig p * 2 ^ v * 2 ^ T := by rw [h]
      _ = sig p * 2 ^ T * 2 ^ v := Nat.mul_right_comm _ _ _
  obtain ⟨g1, g2⟩ := rtF_sq (n := sig p * 2 ^ T) 71 (q := 0) (by omega) hN1
  have hr : rt (sig p * 2 ^ T) = sig a * 2 ^ d := sq_one g1 g2 hsqr
  rw [hr, if_neg (by rw [hsqr]; exact Nat.lt_irrefl _), Nat.add_zero, ← na]
  exact rnd_is (k := d + 1) ha hfa (by omega) (.inl ⟨by rw [Nat.pow_succ, Nat.mul_comm 2, Nat.mul_assoc], by omega⟩)
end Go.Proofs.Ytdcebkhdnhdejaa

/- Roots in words: plain numbers. -/
namespace Go.Proofs.Ytdcebkhdnhdejaa

theorem root_one {n r s : Nat} (h1 : r * r ≤ n) (h2 : n < (r + 1) * (r + 1)) (h3 : s * s ≤ n) (h4 : n < (s + 1) * (s + 1)) : r = s := by
  rcases Nat.lt_trichotomy r s with h | h | h
  · have : (r + 1) * (r + 1) ≤ s * s := Nat.mul_le_mul h h
    omega
  · exact h
  · have : (s + 1) * (s + 1) ≤ r * r := Nat.mul_le_mul h h
    omega
/-- the root of 64 bits tells the same -/
theorem fq_root {m x : Nat} {p mode : Int} (u : Nat) (hu : x = u) (hm : 0 < m) (hm2 : m < 9007199254740992) (he : (p - (x : Int)) % 2 = 0) (hx : 126 ≤ nbits m + x) {Z : Nat} (h1 : Z * Z ≤ m * 2 ^ x) (h2 : m * 2 ^ x < (Z + 1) * (Z + 1)) :
    rootN m p mode = if m * 2 ^ x = Z * Z then rnd false Z 1 ((p - x) / 2) mode else rnd false (2 * Z + 1) 1 ((p - x) / 2 - 1) mode := by
  clear hu u
  obtain ⟨f1, f2, f3, _⟩ := sqt_facts (m := m) (x := p)
  have hb := nbits_shift hm (sqt m p)
  have hnm : nbits m ≤ 53 := nbits_le (show m < 2 ^ 53 from hm2)
  unfold rootN
  generalize sqt m p = T at *
  obtain ⟨j, hj⟩ : ∃ j : Nat, x = T + (j + j) := ⟨(x - T) / 2, by omega⟩
  obtain ⟨y, hy⟩ : ∃ y : Int, p = T + (y + y) := ⟨(p - T) / 2, by omega⟩
  have hy1 : (p - (T : Int)) / 2 = y := by omega
  have hy2 : (p - (x : Int)) / 2 = y - j := by omega
  rw [hy1, hy2]
  have hN : m * 2 ^ x = m * 2 ^ T * (2 ^ j * 2 ^ j) := by
    rw [hj, Nat.pow_add, Nat.pow_add, Nat.mul_assoc]
  rw [hN] at h1 h2 ⊢
  have hN0 : 0 < m * 2 ^ T := Nat.mul_pos hm (Nat.two_pow_pos _)
  obtain ⟨k1, k2, k3⟩ := nbits_bounds (Nat.ne_of_gt hN0)
  have hN1 : m * 2 ^ T < (0 + 2 ^ 71) * (0 + 2 ^ 71) := by
    have h2 : 2 ^ nbits (m * 2 ^ T) ≤ 2 ^ 121 := Nat.pow_le_pow_right (by decide) (by omega)
    have h3 : (2 : Nat) ^ 121 < (0 + 2 ^ 71) * (0 + 2 ^ 71) := by decide
    omega
  have hN2 : 2 ^ 119 ≤ m * 2 ^ T := Nat.le_trans (Nat.pow_le_pow_right (by decide) (by omega)) k2
  obtain ⟨g1, g2⟩ := rtF_sq (n := m * 2 ^ T) 71 (q := 0) (by omega) hN1
  have hR : rtF (m * 2 ^ T) 71 0 = rt (m * 2 ^ T) := rfl
  rw [hR] at g1 g2
  generalize rt (m * 2 ^ T) = R at *
  generalize m * 2 ^ T = N at *
  have hc : 0 < 2 ^ j := Nat.two_pow_pos j
  have hdm := Nat.div_add_mod Z (2 ^ j)
  have hr : Z % 2 ^ j < 2 ^ j := Nat.mod_lt _ hc
  have sq : ∀ a c : Nat, a * c * (a * c) = a * a * (c * c) := fun a c => by simp only [Nat.mul_comm, Nat.mul_left_comm]
  have hQ : Z / 2 ^ j = R := by
    refine root_one (n := N) ?_ ?_ g1 g2
    · have a1 : Z / 2 ^ j * 2 ^ j ≤ Z := Nat.div_mul_le_self _ _
      have a2 := Nat.mul_le_mul a1 a1
      rw [sq] at a2
      exact Nat.le_of_mul_le_mul_right (Nat.le_trans a2 h1) (Nat.mul_pos hc hc)
    · have a1 : Z + 1 ≤ (Z / 2 ^ j + 1) * 2 ^ j := by
        rw [Nat.add_mul, Nat.one_mul, Nat.mul_comm]
        omega
      have a2 := Nat.mul_le_mul a1 a1
      rw [sq] at a2
      exact Nat.lt_of_mul_lt_mul_right (Nat.lt_of_lt_of_le h2 a2)
  rw [hQ] at hdm
  generalize Z % 2 ^ j = r at *
  have hRb : 2 ^ 59 ≤ R := by
    refine Nat.not_lt.1 fun h => ?_
    have h5 : (R + 1) * (R + 1) ≤ 2 ^ 59 * 2 ^ 59 := Nat.mul_le_mul h h
    have h6 : (2 : Nat) ^ 59 * 2 ^ 59 < 2 ^ 119 := by decide
    omega
  have hR0 : 0 < R := Nat.lt_of_lt_of_le (by decide) hRb
  have hk : y + 1 ≤ rx R y := by
    have h1 := rx_ge R y
    have h2 := nbits_ge hRb
    omega
  have hZ : Z = R * 2 ^ j + r := by rw [Nat.mul_comm]; omega
  have hZ2 : 2 * Z + 1 = R * 2 ^ (j + 1) + (2 * r + 1) := by
    rw [Nat.pow_succ, ← Nat.mul_assoc, Nat.mul_comm (R * 2 ^ j) 2]
    omega
  have hr2 : 2 * r + 1 < 2 ^ (j + 1) := by
    rw [Nat.pow_succ]
    omega
  have hs2 : rnd false (2 * Z + 1) 1 (y - j - 1) mode = rnd false (2 * R + 1) 1 (y - 1) mode := by
    rw [hZ2, show y - (j : Int) - 1 = y - ((j + 1 : Nat) : Int) by omega]
    exact rnd_stick hR0 (by omega) hr2 hk
  rw [hs2]
  by_cases h0 : r = 0
  · have hZ' : Z = R * 2 ^ j := by omega
    by_cases hc2 : N = R * R
    · rw [if_neg (by omega), if_pos (by rw [hZ', sq, hc2]), Nat.add_zero, hZ', Nat.mul_comm 2, show R * 2 = R * 2 ^ 1 from rfl, rnd_scale hR0 (by decide), rnd_scale hR0 (by decide)]
      congr 1
      omega
    · have hne : ¬ N * (2 ^ j * 2 ^ j) = Z * Z := by
        intro h
        rw [hZ', sq] at h
        exact hc2 (Nat.eq_of_mul_eq_mul_right (Nat.mul_pos hc hc) h)
      rw [if_pos (by omega), if_neg hne]
  · have hlt : R * R < N := by
      refine Nat.lt_of_le_of_ne g1 fun h => ?_
      rw [← h, ← sq] at h1
      have a1 : R * 2 ^ j + 1 ≤ Z := by omega
      have a2 := Nat.mul_le_mul a1 a1
      rw [Nat.add_mul, Nat.mul_add, Nat.mul_one, Nat.one_mul] at a2
      omega
    rw [if_pos hlt]
    split
    · rw [hZ]
      exact (rnd_stick hR0 (by omega) hr hk).symm
    · rfl
end Go.Proofs.Ytdcebkhdnhdejaa
