/- What is rounded depends on the number alone; sums of numbers. No program is named here. -/
import Derived.Test.YtdcebkhdnhdejaaRndOne
import Derived.Test.YtdcebkhdnhdejaaRefSum
namespace Go.Proofs.Ytdcebkhdnhdejaa

theorem cross_div {U L U' L' : Nat} (hL : 0 < L) (hL' : 0 < L') (h : U' * L = U * L') : U' / L' = U / L ∧ U' % L' * L = U % L * L' := by
  have h1 := Nat.div_add_mod U L
  have h2 := Nat.mod_lt U hL
  have h3 := Nat.div_add_mod U' L'
  have h4 := Nat.mod_lt U' hL'
  generalize U / L = q at *
  generalize U % L = r at *
  generalize U' / L' = q' at *
  generalize U' % L' = r' at *
  have e : (L' * q' + r') * L = (L * q + r) * L' := by rw [h3, h1, h]
  rw [Nat.add_mul, Nat.add_mul] at e
  have e1 : L' * q' * L = q' * (L' * L) := by rw [Nat.mul_comm L' q', Nat.mul_assoc]
  have e2 : L * q * L' = q * (L' * L) := by rw [Nat.mul_comm L q, Nat.mul_assoc, Nat.mul_comm L L']
  rw [e1, e2] at e
  have b1 : r' * L < L' * L := Nat.mul_lt_mul_of_pos_right h4 hL
  have b2 : r * L' < L' * L := by rw [Nat.mul_comm L' L]; exact Nat.mul_lt_mul_of_pos_right h2 hL'
  have hp : 0 < L' * L := Nat.mul_pos hL' hL
  generalize L' * L = X at *
  generalize r' * L = s' at *
  generalize r * L' = s at *
  have hq : q' = q := by
    have k1 : (q' * X + s') / X = q' := by rw [Nat.mul_comm, Nat.mul_add_div hp, Nat.div_eq_of_lt b1]; rfl
    have k2 : (q * X + s) / X = q := by rw [Nat.mul_comm, Nat.mul_add_div hp, Nat.div_eq_of_lt b2]; rfl
    rw [← k1, e, k2]
  subst hq
  exact ⟨rfl, by omega⟩
theorem cross_cmp {r L r' L' : Nat} (hL : 0 < L) (hL' : 0 < L') (h : r' * L = r * L') : (r' ≠ 0 ↔ r ≠ 0) ∧ cmpN (2 * r') L' = cmpN (2 * r) L := by
  have key : ∀ x y x' y' : Nat, 0 < y → 0 < y' → x' * y = x * y' → (x' < y' ↔ x < y) := by
    intro x y x' y' hy hy' e
    constructor
    · intro hh
      refine Nat.lt_of_mul_lt_mul_right (a := y') ?_
      rw [← e, Nat.mul_comm y y']
      exact Nat.mul_lt_mul_of_pos_right hh hy
    · intro hh
      refine Nat.lt_of_mul_lt_mul_right (a := y) ?_
      rw [e, Nat.mul_comm y' y]
      exact Nat.mul_lt_mul_of_pos_right hh hy'
  have h2 : 2 * r' * L = 2 * r * L' := by rw [Nat.mul_assoc, h, Nat.mul_assoc]
  have k1 := key (2 * r) L (2 * r') L' hL hL' h2
  refine ⟨?_, ?_⟩
  · constructor
    · intro a b
      subst b
      rw [Nat.zero_mul] at h
      rcases Nat.mul_eq_zero.1 h with h | h <;> omega
    · intro a b
      subst b
      rw [Nat.zero_mul] at h
      rcases Nat.mul_eq_zero.1 h.symm with h | h <;> omega
  · have k3 : (2 * r' = L' ↔ 2 * r = L) := by
      constructor
      · intro e
        rw [e, Nat.mul_comm L' L] at h2
        exact (Nat.eq_of_mul_eq_mul_right hL' h2).symm
      · intro e
        rw [e, Nat.mul_comm L L'] at h2
        exact Nat.eq_of_mul_eq_mul_right hL h2
    unfold cmpN
    by_cases c1 : 2 * r' < L'
    · rw [if_pos c1, if_pos (k1.1 c1)]
    · rw [if_neg c1, if_neg (fun hh => c1 (k1.2 hh))]
      by_cases c2 : 2 * r' = L'
      · rw [if_neg (by omega), if_neg (by have := k3.1 c2; omega)]
      · have c3 : ¬ 2 * r = L := fun hh => c2 (k3.2 hh)
        have c4 : ¬ 2 * r < L := fun hh => c1 (k1.2 hh)
        rw [if_pos (by omega), if_pos (by omega)]
/-- two fractions that are one number are rounded alike -/
theorem rnd_cross {neg : Bool} {num den num' den' : Nat} {exp exp' mode : Int} (hn : 0 < num) (hd : 0 < den) (hn' : 0 < num') (hd' : 0 < den')
    (h : ∀ e : Int, upper num' (exp' - e) * lower den (exp - e) = upper num (exp - e) * lower den' (exp' - e)) : rnd neg num' den' exp' mode = rnd neg num den exp mode := by
  have hf := rexp_fits hn hd exp
  obtain ⟨e, he⟩ : ∃ e, e = rexp num den exp := ⟨_, rfl⟩
  rw [← he] at hf
  obtain ⟨d1, d2⟩ := cross_div (lower_pos hd (exp - e)) (lower_pos hd' (exp' - e)) (h e)
  obtain ⟨c1, c2⟩ := cross_cmp (lower_pos hd (exp - e)) (lower_pos hd' (exp' - e)) d2
  have hq : qat num' den' exp' e = qat num den exp e := d1
  have he' : rexp num' den' exp' = e := fits_one hd' (rexp_fits hn' hd' exp') (by rw [hq]; exact hf)
  have ht : rtiny num' den' exp' = rtiny num den exp := by
    have h9 := h (-1022)
    rw [show exp' - -1022 = exp' + 1022 by omega, show exp - -1022 = exp + 1022 by omega] at h9
    unfold rtiny
    have p1 := lower_pos hd (exp + 1022)
    have p2 := lower_pos hd' (exp' + 1022)
    obtain ⟨z1, _⟩ := cross_div p1 p2 h9
    by_cases c : upper num (exp + 1022) < lower den (exp + 1022)
    · rw [decide_eq_true c]
      rw [Nat.div_eq_of_lt c] at z1
      exact decide_eq_true (by rcases Nat.div_eq_zero_iff.1 z1 with z | z <;> omega)
    · rw [decide_eq_false c]
      refine decide_eq_false fun c' => c ?_
      rw [Nat.div_eq_of_lt c'] at z1
      rcases Nat.div_eq_zero_iff.1 z1.symm with z | z <;> omega
  unfold rnd
  rw [he', ← he, hq, ht]
  have hr : decide (rst num' den' (exp' - e) ≠ 0) = decide (rst num den (exp - e) ≠ 0) := by
    have c1' : rst num' den' (exp' - e) ≠ 0 ↔ rst num den (exp - e) ≠ 0 := c1
    by_cases c : rst num den (exp - e) ≠ 0
    · rw [decide_eq_true c, decide_eq_true (c1'.2 c)]
    · rw [decide_eq_false c, decide_eq_false (fun hh => c (c1'.1 hh))]
  have hc : cmpN (2 * rst num' den' (exp' - e)) (lower den' (exp' - e)) = cmpN (2 * rst num den (exp - e)) (lower den (exp - e)) := c2
  rw [hr, hc]
theorem pw_move (z : Int) (k : Nat) : pw z * 2 ^ k * pw (-(z + k)) = pw (z + k) * pw (-z) := by
  unfold pw
  rw [← Nat.pow_add, ← Nat.pow_add, ← Nat.pow_add]
  congr 1
  omega
theorem rnd_scale {neg : Bool} {num den k : Nat} {exp mode : Int} (hn : 0 < num) (hd : 0 < den) : rnd neg (num * 2 ^ k) den exp mode = rnd neg num den (exp + k) mode := by
  refine rnd_cross hn hd (Nat.mul_pos hn (Nat.two_pow_pos _)) hd fun e => ?_
  have h := pw_move (exp - e) k
  unfold upper lower
  rw [show exp + (k : Int) - e = exp - e + k by omega]
  generalize pw (exp - e) = a at *
  generalize pw (exp - e + k) = b at *
  generalize pw (-(exp - e)) = c at *
  generalize pw (-(exp - e + k)) = d at *
  generalize 2 ^ k = x at *
  calc num * x * a * (den * d) = num * den * (a * x * d) := by simp only [Nat.mul_comm, Nat.mul_left_comm, Nat.mul_assoc]
    _ = num * den * (b * c) := by rw [h]
    _ = num * b * (den * c) := by simp only [Nat.mul_comm, Nat.mul_left_comm, Nat.mul_assoc]
/-- whatever tells a number that may be is rounded to it -/
theorem rnd_is {a N k : Nat} {exp mode : Int} (ha : a < 18446744073709551616) (hc : fe a ≠ 2047) (h0 : sig a ≠ 0)
    (h : N = sig a * 2 ^ k ∧ exp = xpo a - k ∨ N * 2 ^ k = sig a ∧ exp = xpo a + k) : rnd (neg6 a) N 1 exp mode = (a, 0) := by
  rw [← rnd_split (mode := mode) ha hc h0]
  rcases h with ⟨rfl, rfl⟩ | ⟨h1, rfl⟩
  · rw [rnd_scale (by omega) (by decide)]
    congr 1
    omega
  · have hN : 0 < N := by
      rcases Nat.eq_zero_or_pos N with z | z
      · subst z; rw [Nat.zero_mul] at h1; omega
      · exact z
    rw [← h1, rnd_scale hN (by decide)]
theorem ssum_comm (neg : Bool) (m : Nat) (p : Int) (other : Bool) (k : Nat) (q : Int) : ssum neg m p other k q = ssum other k q neg m p := by
  unfold ssum
  rw [Int.min_comm p q, Int.add_comm]
theorem rsum_comm (neg : Bool) (m : Nat) (p : Int) (other : Bool) (k : Nat) (q mode : Int) : rsum neg m p other k q mode = rsum other k q neg m p mode := by
  unfold rsum
  rw [ssum_comm, Int.min_comm p q]
  by_cases h : neg = other
  · subst h; rfl
  · have h' : ¬ other = neg := fun hh => h hh.symm
    simp only [h, h', if_false]
theorem radd_comm (a b : Nat) (mode : Int) : radd a b mode = radd b a mode := by
  unfold radd
  by_cases a3 : cls a = 3
  · simp only [a3, true_or, or_true, if_true]
  · by_cases b3 : cls b = 3
    · simp only [b3, true_or, or_true, if_true]
    · simp only [a3, b3, or_self, if_false]
      by_cases a2 : cls a = 2
      · by_cases b2 : cls b = 2
        · by_cases hab : a = b
          · subst hab; rfl
          · have hba : ¬ b = a := fun h => hab h.symm
            simp only [a2, b2, ne_eq, hab, hba, not_false_eq_true, true_and, if_true]
        · simp only [a2, b2, false_and, and_false, if_false, if_true]
      · by_cases b2 : cls b = 2
        · simp only [a2, b2, false_and, and_false, if_false, if_true]
        · simp only [a2, b2, false_and, if_false]
          exact rsum_comm _ _ _ _ _ _ _
end Go.Proofs.Ytdcebkhdnhdejaa
