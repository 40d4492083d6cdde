/- What is rounded depends on the number alone; sums of numbers. No program is named here. -/
import Derived.Test.YtjapilpjahhimaaRefSplit
import Derived.Test.YtjapilpjahhimaaRefSum
namespace Go.Proofs.Ytjapilpjahhimaa

theorem cross_div {U L U' L' : Nat} (hL : 0 < L) (hL' : 0 < L') (h : U' * L = U * L') : U' / L' = U / L ∧ U' % L' * L = U % L * L' := by
  have h1 := Nat.div_add_mod U L
  have h2 := Nat.mod_lt U hL
  have h3 := Nat.div_add_mod U' L'
  have h4 := Nat.mod_lt U' hL'
  generalize U / L = q at *
  generalize U % L = r at *
  generalize U' / L' = q' at *
  generalize U' % L' = r' at *
  have e : (L' * q' + r') * L = (L * q + r) * L' := by rw [h3, h1, h]
  rw [Nat.add_mul, Nat.add_mul] at e
  have e1 : L' * q' * L = q' * (L' * L) := by rw [Nat.mul_comm L' q', Nat.mul_assoc]
  have e2 : L * q * L' = q * (L' * L) := by rw [Nat.mul_comm L q, Nat.mul_assoc, Nat.mul_comm L L']
  rw [e1, e2] at e
  have b1 : r' * L < L' * L := Nat.mul_lt_mul_of_pos_right h4 hL
  have b2 : r * L' < L' * L := by rw [Nat.mul_comm L' L]; exact Nat.mul_lt_mul_of_pos_right h2 hL'
  have hp : 0 < L' * L := Nat.mul_pos hL' hL
  generalize L' * L = X at *
  generalize r' * L = s' at *
  generalize r * L' = s at *
  have hq : q' = q := by
    have k1 : (q' * X + s') / X = q' := by rw [Nat.mul_comm, Nat.mul_add_div hp, Nat.div_eq_of_lt b1]; rfl
    have k2 : (q * X + s) / X = q := by rw [Nat.mul_comm, Nat.mul_add_div hp, Nat.div_eq_of_lt b2]; rfl
    rw [← k1, e, k2]
  subst hq
  exact ⟨rfl, by omega⟩
theorem cross_cmp {r L r' L' : Nat} (hL : 0 < L) (hL' : 0 < L') (h : r' * L = r * L') : (r' ≠ 0 ↔ r ≠ 0) ∧ cmpN (2 * r') L' = cmpN (2 * r) L := by
  have key : ∀ x y x' y' : Nat, 0 < y → 0 < y' → x' * y = x * y' → (x' < y' ↔ x < y) := by
    intro x y x' y' hy hy' e
    constructor
    · intro hh
      refine Nat.lt_of_mul_lt_mul_right (a := y') ?_
      rw [← e, Nat.mul_comm y y']
      exact Nat.mul_lt_mul_of_pos_right hh hy
    · intro hh
      refine Nat.lt_of_mul_lt_mul_right (a := y) ?_
      rw [e, Nat.mul_comm y' y]
      exact Nat.mul_lt_mul_of_pos_right hh hy'
  have h2 : 2 * r' * L = 2 * r * L' := by rw [Nat.mul_assoc, h, Nat.mul_assoc]
  have k1 := key (2 * r) L (2 * r') L' hL hL' h2
  refine ⟨?_, ?_⟩
  · constructor
    · intro a b
      subst b
      rw [Nat.zero_mul] at h
      rcases Nat.mul_eq_zero.1 h with h | h <;> omega
    · intro a b
      subst b
      rw [Nat.zero_mul] at h
      rcases Nat.mul_eq_zero.1 h.symm with h | h <;> omega
  · have k3 : (2 * r' = L' ↔ 2 * r = L) := by
      constructor
      · intro e
        rw [e, Nat.mul_comm L' L] at h2
        exact (Nat.eq_of_mul_eq_mul_right hL' h2).symm
      · intro e
        rw [e, Nat.mul_comm L L'] at h2
        exact Nat.eq_of_mul_eq_mul_right hL h2
    unfold cmpN
    by_cases c1 : 2 * r' < L'
    · rw [if_pos c1, if_pos (k1.1 c1)]
    · rw [if_neg c1, if_neg (fun hh => c1 (k1.2 hh))]
      by_cases c2 : 2 * r' = L'
      · rw [if_neg (by omega), if_neg (by have := k3.1 c2; omega)]
      · have c3 : ¬ 2 * r = L := fun hh => c2 (k3.2 hh)
        have c4 : ¬ 2 * r < L := fun hh => c1 (k1.2 hh)
        rw [if_pos (by omega), if_pos (by omega)]
/-- two fractions that are one number are rounded alike -/
theorem rnd_cross {neg : Bool} {num den num' den' : Nat} {exp exp' mode : Int} (hn : 0 < num) (hd : 0 < den) (hn' : 0 < num') (hd' : 0 < den')
    (h : ∀ e : Int, upper num' (exp' - e) * lower den (exp - e) = upper num (exp - e) * lower den' (exp' - e)) : rnd neg num' den' exp' mode = rnd neg num den exp mode := by
  have hf := rexp_fits hn hd exp
  obtain ⟨e, he⟩ : ∃ e, e = rexp num den exp := ⟨_, rfl⟩
  rw [← he] at hf
  obtain ⟨d1, d2⟩ := cross_div (lower_pos hd (exp - e)) (lower_pos hd' (exp' - e)) (h e)
  obtain ⟨c1, c2⟩ := cross_cmp (lower_pos hd (exp - e)) (lower_pos hd' (exp' - e)) d2
  have hq : qat num' den' exp' e = qat num den exp e := d1
  have he' : rexp num' den' exp' = e := fits_one hd' (rexp_fits hn' hd' exp') (by rw [hq]; exact hf)
  have ht : rtiny num' den' exp' = rtiny num den exp := by
    have h9 := h (-1022)
    rw [show exp' - -1022 = exp' + 1022 by omega, show exp - -1022 = exp + 1022 by omega] at h9
    unfold rtiny
    have p1 := lower_pos hd (exp + 1022)
    have p2 := lower_pos hd' (exp' + 1022)
    obtain ⟨z1, _⟩ := cross_div p1 p2 h9
    by_cases c : upper num (exp + 1022) < lower den (exp + 1022)
    · rw [decide_eq_true c]
      rw [Nat.div_eq_of_lt c] at z1
      exact decide_eq_true (by rcases Nat.div_eq_zero_iff.1 z1 with z | z <;> omega)
    · rw [decide_eq_false c]
      refine decide_eq_false fun c' => c ?_
      rw [Nat.div_eq_of_lt c'] at z1
      rcases Nat.div_eq_zero_iff.1 z1.symm with z | z <;> omega
  unfold rnd
  rw [he', ← he, hq, ht]
  have hr : decide (rst num' den' (exp' - e) ≠ 0) = decide (rst num den (exp - e) ≠ 0) := by
    have c1' : rst num' den' (exp' - e) ≠ 0 ↔ rst num den (exp - e) ≠ 0 := c1
    by_cases c : rst num den (exp - e) ≠ 0
    · rw [decide_eq_true c, decide_eq_true (c1'.2 c)]
    · rw [decide_eq_false c, decide_eq_false (fun hh => c (c1'.1 hh))]
  have hc : cmpN (2 * rst num' den' (exp' - e)) (lower den' (exp' - e)) = cmpN (2 * rst num den (exp - e)) (lower den (exp - e)) := c2
  rw [hr, hc]
theorem pw_move (z : Int) (k : Nat) : pw z * 2 ^ k * pw (-(z + k)) = pw (z + k) * pw (-z) := by
  unfold pw
  rw [← Nat.pow_add, ← Nat.pow_add, ← Nat.pow_add]
  congr 1
  omega
theorem rnd_scale {neg : Bool} {num den k : Nat} {exp mode : Int} (hn : 0 < num) (hd : 0 < den) : rnd neg (num * 2 ^ k) den exp mode = rnd neg num den (exp + k) mode := by
  refine rnd_cross hn hd (Nat.mul_pos hn (Nat.two_pow_pos _)) hd fun e => ?_
  have h := pw_move (exp - e) k
  unfold upper lower
  rw [show exp + (k : Int) - e = exp - e + k by omega]
  generalize pw (exp - e) = a at *
  generalize pw (exp - e + k) = b at *
  generalize pw (-(exp - e)) = c at *
  generalize pw (-(exp - e + k)) = d at *
  generalize 2 ^ k = x at *
  calc num * x * a * (den * d) = num * den * (a * x * d) := by simp only [Nat.mul_comm, Nat.mul_left_comm]
    _ = num * den * (b * c) := by rw [h]
    _ = num * b * (den * c) := by simp only [Nat.mul_comm, Nat.mul_left_comm]
/-- whatever tells a number that may be is rounded to it -/
theorem rnd_is {a N k : Nat} {exp mode : Int} (ha : a < 18446744073709551616) (hc : fe a ≠ 2047) (h0 : sig a ≠ 0)
    (h : N = sig a * 2 ^ k ∧ exp = xpo a - k ∨ N * 2 ^ k = sig a ∧ exp = xpo a + k) : rnd (neg6 a) N 1 exp mode = (a, 0) := by
  rw [← rnd_split (mode := mode) ha hc h0]
  rcases h with ⟨rfl, rfl⟩ | ⟨h1, rfl⟩
  · rw [rnd_scale (by omega) (by decide)]
    congr 1
    omega
  · have hN : 0 < N := by
      rcases Nat.eq_zero_or_pos N with z | z
      · subst z; rw [Nat.zero_mul] at h1; omega
      · exact z
    rw [← h1, rnd_scale hN (by decide)]
theorem ssum_comm (neg : Bool) (m : Nat) (p : Int) (other : Bool) (k : Nat) (q : Int) : ssum neg m p other k q = ssum other k q neg m p := by
  unfold ssum
  rw [Int.min_comm p q, Int.add_comm]
theorem rsum_comm (neg : Bool) (m : Nat) (p : Int) (other : Bool) (k : Nat) (q mode : Int) : rsum neg m p other k q mode = rsum other k q neg m p mode := by
  unfold rsum
  rw [ssum_comm, Int.min_comm p q]
  by_cases h : neg = other
  · subst h; rfl
  · have h' : ¬ other = neg := fun hh => h hh.symm
    simp only [h, h', if_false]
theorem radd_comm (a b : Nat) (mode : Int) : radd a b mode = radd b a mode := by
  unfold radd
  by_cases a3 : cls a = 3
  · simp only [a3, true_or, or_true, if_true]
  · by_cases b3 : cls b = 3
    · simp only [b3, true_or, or_true, if_true]
    · simp only [a3, b3, or_self, if_false]
      by_cases a2 : cls a = 2
      · by_cases b2 : cls b = 2
        · by_cases hab : a = b
          · subst hab; rfl
          · have hba : ¬ b = a := fun h => hab h.symm
            simp only [a2, b2, ne_eq, hab, hba, not_false_eq_true, true_and, if_true]
        · simp only [a2, b2, false_and, and_false, if_false, if_true]
      · by_cases b2 : cls b = 2
        · simp only [a2, b2, false_and, and_false, if_false, if_true]
        · simp only [a2, b2, false_and, if_false]
          exact rsum_comm _ _ _ _ _ _ _
end Go.Proofs.Ytjapilpjahhimaa

/- The other sign; sums of numbers that are told exactly: plain numbers. -/
namespace Go.Proofs.Ytjapilpjahhimaa

theorem xor_low {c : Nat} (h : c < 9223372036854775808) : c ^^^ 9223372036854775808 = c + 9223372036854775808 := by
  rw [Nat.add_comm, show 9223372036854775808 = 2 ^ 63 from rfl]
  apply Nat.eq_of_testBit_eq
  intro i
  rw [Nat.testBit_xor, Nat.testBit_two_pow]
  rcases Nat.lt_trichotomy i 63 with hi | hi | hi
  · rw [Nat.testBit_two_pow_add_gt hi, decide_eq_false (by omega : ¬ 63 = i)]
    cases c.testBit i <;> rfl
  · subst hi
    rw [Nat.testBit_two_pow_add_eq]
    simp
  · have h1 : c.testBit i = false := Nat.testBit_lt_two_pow (Nat.lt_of_lt_of_le (show c < 2 ^ 63 from h) (Nat.pow_le_pow_right (show 0 < 2 by decide) (by omega : 63 ≤ i)))
    have h2 : (2 ^ 63 + c).testBit i = false := Nat.testBit_lt_two_pow (Nat.lt_of_lt_of_le (show 2 ^ 63 + c < 2 ^ 64 by omega) (Nat.pow_le_pow_right (show 0 < 2 by decide) (by omega : 64 ≤ i)))
    rw [h1, h2, decide_eq_false (by omega : ¬ 63 = i)]
    rfl
/-- the other sign -/
def flip (b : Nat) : Nat := b ^^^ 9223372036854775808
theorem flip_eq {b : Nat} (hb : b < 18446744073709551616) : flip b = if neg6 b then b - 9223372036854775808 else b + 9223372036854775808 := by
  unfold flip neg6
  by_cases h : (9223372036854775808 : Int) ≤ (b : Int)
  · rw [decide_eq_true h, if_pos rfl]
    obtain ⟨c, rfl⟩ : ∃ c, b = c + 9223372036854775808 := ⟨b - 9223372036854775808, by omega⟩
    rw [← xor_low (by omega), Nat.xor_assoc, Nat.xor_self, Nat.xor_zero, xor_low (by omega)]
    omega
  · rw [decide_eq_false h, if_neg Bool.false_ne_true, xor_low (by omega)]
theorem flip_facts {b : Nat} (hb : b < 18446744073709551616) : flip b < 18446744073709551616 ∧ neg6 (flip b) = !neg6 b ∧ fe (flip b) = fe b ∧ ff (flip b) = ff b := by
  rw [flip_eq hb]
  have h1 := bits_eq hb
  by_cases h : (9223372036854775808 : Int) ≤ (b : Int)
  · have hn : neg6 b = true := decide_eq_true h
    rw [hn, if_pos rfl]
    refine ⟨by omega, decide_eq_false (by omega), ?_, ?_⟩
    · unfold fe; omega
    · unfold ff; omega
  · have hn : neg6 b = false := decide_eq_false h
    rw [hn, if_neg Bool.false_ne_true]
    refine ⟨by omega, decide_eq_true (by omega), ?_, ?_⟩
    · unfold fe; omega
    · unfold ff; omega
theorem flip_flip {b : Nat} : flip (flip b) = b := by
  unfold flip
  rw [Nat.xor_assoc, Nat.xor_self, Nat.xor_zero]
theorem flip_told {b : Nat} (hb : b < 18446744073709551616) : cls (flip b) = cls b ∧ sig (flip b) = sig b ∧ xpo (flip b) = xpo b := by
  obtain ⟨_, _, h1, h2⟩ := flip_facts hb
  unfold cls sig xpo
  rw [h1, h2]
  exact ⟨rfl, rfl, rfl⟩
/-- Sub -/
def rsubt (a b : Nat) (mode : Int) : Nat × Nat := if cls b = 3 then (9221120237041090560, 0) else radd a (flip b) mode
theorem cls_zero : cls 0 = 0 := by decide
theorem sgn_two (s : Bool) : sgn s * 2 % 18446744073709551616 = 0 := by cases s <;> rfl
/-- a number less itself -/
theorem rsub_self {a : Nat} {mode : Int} (ha : a < 18446744073709551616) (hc : cls a ≤ 1) : ∃ s, rsubt a a mode = (sgn s, 0) := by
  obtain ⟨_, k1, _, _⟩ := flip_facts ha
  obtain ⟨k2, k3, k4⟩ := flip_told ha
  unfold rsubt radd
  rw [k2, if_neg (by omega), if_neg (by omega), if_neg (by omega), if_neg (by omega), if_neg (by omega)]
  unfold rsum
  have h0 : ssum (neg6 a) (sig a) (xpo a) (neg6 (flip a)) (sig (flip a)) (xpo (flip a)) = 0 := by
    unfold ssum
    rw [k1, k3, k4]
    cases neg6 a <;> (simp [sv]; omega)
  rw [if_pos h0, k1]
  have hne : ¬ neg6 a = !neg6 a := by cases neg6 a <;> decide
  rw [if_neg hne]
  exact ⟨_, rfl⟩
theorem decide_sv {neg : Bool} {N : Nat} (h : 0 < N) : decide (sv neg N < 0) = neg ∧ (sv neg N).natAbs = N ∧ sv neg N ≠ 0 := by
  cases neg
  · refine ⟨decide_eq_false ?_, ?_, ?_⟩ <;> simp [sv] <;> omega
  · refine ⟨decide_eq_true ?_, ?_, ?_⟩ <;> simp [sv] <;> omega
theorem sv_mul (neg : Bool) (N k : Nat) : sv neg (N * k) = sv neg N * (k : Int) := by
  cases neg <;> simp [sv, Int.neg_mul]
/-- whatever sum is a number is told as that -/
theorem rsum_is {neg other : Bool} {m k N x : Nat} {p q mode : Int} {a : Nat} (ha : a < 18446744073709551616) (hc : fe a ≠ 2047) (h0 : sig a ≠ 0) (hS : ssum neg m p other k q = sv (neg6 a) N)
    (h : N = sig a * 2 ^ x ∧ min p q = xpo a - x ∨ N * 2 ^ x = sig a ∧ min p q = xpo a + x) : rsum neg m p other k q mode = (a, 0) := by
  have hN : 0 < N := by
    rcases h with ⟨rfl, _⟩ | ⟨h1, _⟩
    · exact Nat.mul_pos (by omega) (Nat.two_pow_pos _)
    · rcases Nat.eq_zero_or_pos N with z | z
      · subst z; rw [Nat.zero_mul] at h1; omega
      · exact z
  obtain ⟨d1, d2, d3⟩ := decide_sv (neg := neg6 a) hN
  unfold rsum
  rw [hS, if_neg d3, d1, d2]
  exact rnd_is ha hc h0 h
theorem sgn_lt (s : Bool) : sgn s ≤ 18446744073709551615 := by cases s <;> decide
theorem rsum_lt {neg other : Bool} {m k : Nat} {p q mode : Int} : (rsum neg m p other k q mode).1 ≤ 18446744073709551615 := by
  unfold rsum
  split
  · split <;> exact sgn_lt _
  · rename_i h
    exact rnd_lt _ (by omega) (by decide) _ _
theorem radd_lt {a b : Nat} {mode : Int} (ha : a ≤ 18446744073709551615) (hb : b ≤ 18446744073709551615) : (radd a b mode).1 ≤ 18446744073709551615 := by
  unfold radd
  split
  · decide
  · split
    · decide
    · split
      · exact ha
      · split
        · exact hb
        · exact rsum_lt
theorem upper_zero (z : Int) : upper 0 z = 0 := Nat.zero_mul _
theorem sv_zero (b : Bool) : sv b 0 = 0 := by cases b <;> rfl
/-- with 0 it is itself -/
theorem radd_zero {a : Nat} {mode : Int} (ha : a < 18446744073709551616) (hc : cls a ≤ 1) : (radd a 0 mode).2 = 0 ∧ ((radd a 0 mode).1 = a ∨ a * 2 % 18446744073709551616 = 0 ∧ (radd a 0 mode).1 * 2 % 18446744073709551616 = 0) := by
  have hfe : fe a ≠ 2047 := cls_fin.1 hc
  have hx := xpo_range06 a
  unfold radd
  rw [cls_zero, if_neg (by omega), if_neg (by omega), if_neg (by omega), if_neg (by omega)]
  have e1 : neg6 0 = false := by decide
  have e2 : sig 0 = 0 := by decide
  have e3 : xpo 0 = -1074 := by decide
  rw [e1, e2, e3]
  have hm : min (xpo a) (-1074) = -1074 := by omega
  by_cases h0 : sig a = 0
  · obtain ⟨z1, z2⟩ := sig_zero ha h0
    have hS : ssum (neg6 a) (sig a) (xpo a) false 0 (-1074) = 0 := by
      unfold ssum
      rw [h0, upper_zero, upper_zero, sv_zero, sv_zero]; rfl
    unfold rsum
    rw [if_pos hS]
    have ha2 : a * 2 % 18446744073709551616 = 0 := by rw [z1]; exact sgn_two _
    by_cases hn : neg6 a = false
    · rw [if_pos hn]; exact ⟨rfl, .inr ⟨ha2, sgn_two _⟩⟩
    · rw [if_neg hn]; exact ⟨rfl, .inr ⟨ha2, sgn_two _⟩⟩
  · obtain ⟨d, hd⟩ : ∃ d : Nat, xpo a + 1074 = d := ⟨(xpo a + 1074).toNat, by omega⟩
    have hS : ssum (neg6 a) (sig a) (xpo a) false 0 (-1074) = sv (neg6 a) (sig a * 2 ^ d) := by
      unfold ssum
      rw [hm, upper_zero, sv_zero, show xpo a - -1074 = (d : Int) by omega, upper_nat, Int.add_zero]
    rw [rsum_is (x := d) ha hfe h0 hS (.inl ⟨rfl, by omega⟩)]
    exact ⟨rfl, .inl rfl⟩
/-- one by one, with all flags -/
def fsumN (mode : Int) (xs : List Nat) : Nat → Nat × Int
  | 0 => (0, 0)
  | k + 1 => ((radd (fsumN mode xs k).1 (lim xs k) mode).1, bits .or .i64 (fsumN mode xs k).2 ((radd (fsumN mode xs k).1 (lim xs k) mode).2 : Int))
theorem fsumN_lt (mode : Int) {xs : List Nat} (hl : Low 18446744073709551616 xs) (k : Nat) : (fsumN mode xs k).1 ≤ 18446744073709551615 := by
  induction k with
  | zero => exact Nat.zero_le _
  | succ k ih => exact radd_lt ih (by have := lim_lt hl (by decide) k; omega)
end Go.Proofs.Ytjapilpjahhimaa

/- Sums of numbers of one exponent and few bits are exact: plain numbers. -/
namespace Go.Proofs.Ytjapilpjahhimaa

theorem sv_not (q : Bool) (B : Nat) : sv (!q) B = - sv q B := by cases q <;> simp [sv]
theorem sv_abs (S : Int) : sv (decide (S < 0)) S.natAbs = S := by
  by_cases h : S < 0
  · rw [decide_eq_true h]; simp [sv]; omega
  · rw [decide_eq_false h]; simp [sv]; omega
theorem upper_at (N : Nat) {z : Int} (k : Nat) (h : z = k) : upper N z = N * 2 ^ k := by rw [h, upper_nat]
/-- the bits of a number that fits -/
theorem bits_of (neg : Bool) {q : Nat} {e : Int} (hf : Fits q e) (he : e ≤ 971) :
    ∃ s, s < 18446744073709551616 ∧ neg6 s = neg ∧ fe s ≠ 2047 ∧ sig s = q ∧ xpo s = e := by
  obtain ⟨f1, f2, f3⟩ := hf
  obtain ⟨x, hx⟩ : ∃ x : Nat, (e + 1074).toNat = x := ⟨_, rfl⟩
  have hx2 : x ≤ 2045 := by omega
  have hl : (e + 1074).toNat * 4503599627370496 + q < 9218868437227405312 := by rw [hx]; omega
  obtain ⟨h1, h2⟩ := enc_fields neg ⟨f1, f2, f3⟩ hl
  refine ⟨_, ?_, ?_, ?_, h1, h2⟩
  · unfold sgn; split <;> omega
  · unfold neg6 sgn
    cases neg
    · exact decide_eq_false (by simp; omega)
    · exact decide_eq_true (by simp; omega)
  · rw [(sgn_fields neg (by omega)).1]
    omega
theorem cls_of_fe {a : Nat} (h : fe a ≠ 2047) : cls a ≤ 1 := cls_fin.2 h
theorem radd_fin {a b : Nat} {mode : Int} (ha : fe a ≠ 2047) (hb : fe b ≠ 2047) : radd a b mode = rsum (neg6 a) (sig a) (xpo a) (neg6 b) (sig b) (xpo b) mode := by
  have h1 := cls_of_fe ha
  have h2 := cls_of_fe hb
  unfold radd
  rw [if_neg (by omega), if_neg (by omega), if_neg (by omega), if_neg (by omega)]
theorem rsubt_fin {a b : Nat} {mode : Int} (hb64 : b < 18446744073709551616) (ha : fe a ≠ 2047) (hb : fe b ≠ 2047) : rsubt a b mode = rsum (neg6 a) (sig a) (xpo a) (!neg6 b) (sig b) (xpo b) mode := by
  have h2 := cls_of_fe hb
  obtain ⟨_, k1, k2, _⟩ := flip_facts hb64
  obtain ⟨_, k3, k4⟩ := flip_told hb64
  unfold rsubt
  rw [if_neg (by omega), radd_fin ha (by rw [k2]; exact hb), k1, k3, k4]
set_option maxHeartbeats 2000000 in
theorem exact_sum {a b m k : Nat} {E : Int} (ha : a < 18446744073709551616) (hb : b < 18446744073709551616) (fa : fe a ≠ 2047) (fb : fe b ≠ 2047) (xa : xpo a = E) (xb : xpo b = E)
    (sa : sig a = 4503599627370496 + m * 524288) (sb : sig b = 4503599627370496 + k * 524288) (hm : m < 4294967296) (hk : k < 4294967296) (e1 : -975 ≤ E) (e2 : E ≤ 824) :
    ∃ s, s < 18446744073709551616 ∧ radd a b 0 = (s, 0) ∧ rsubt s b 0 = (a, 0) := by
  rw [radd_fin fa fb, xa, xb]
  have hS : ssum (neg6 a) (sig a) E (neg6 b) (sig b) E = sv (neg6 a) (sig a) + sv (neg6 b) (sig b) := by
    unfold ssum
    rw [Int.min_self, Int.sub_self, upper_neg _ (Int.le_refl 0), upper_neg _ (Int.le_refl 0)]
  obtain ⟨S, hSd⟩ : ∃ S, S = sv (neg6 a) (sig a) + sv (neg6 b) (sig b) := ⟨_, rfl⟩
  rw [← hSd] at hS
  have hbig : S.natAbs ≤ 18014398509481983 ∧ S.natAbs % 2 = 0 := by
    rw [hSd, sa, sb]
    cases neg6 a <;> cases neg6 b <;> simp [sv] <;> omega
  by_cases h0 : S = 0
  · have hpq : neg6 a = !neg6 b ∧ sig a = sig b := by
      rw [hSd, sa, sb] at h0
      cases hna : neg6 a <;> cases hnb : neg6 b <;> rw [hna, hnb] at h0 <;> simp [sv] at h0 <;> (try omega) <;> (refine ⟨rfl, ?_⟩; omega)
    refine ⟨0, by decide, ?_, ?_⟩
    · unfold rsum
      rw [hS, if_pos h0, if_neg (by rw [hpq.1]; cases neg6 b <;> decide)]
      rfl
    · rw [rsubt_fin hb (by decide) fb]
      have z1 : neg6 0 = false := by decide
      have z2 : sig 0 = 0 := by decide
      have z3 : xpo 0 = -1074 := by decide
      rw [z1, z2, z3, xb, ← hpq.1, ← hpq.2]
      obtain ⟨d, hd⟩ : ∃ d : Nat, E + 1074 = d := ⟨(E + 1074).toNat, by omega⟩
      refine rsum_is (N := sig a * 2 ^ d) (x := d) ha fa (by omega) ?_ (.inl ⟨rfl, by rw [xa]; omega⟩)
      unfold ssum
      rw [upper_zero, sv_zero, upper_at (sig a) d (by omega), Int.zero_add]
  · have hN : 0 < S.natAbs := by omega
    obtain ⟨n1, n2, n3⟩ := nbits_bounds (Nat.ne_of_gt hN)
    have hn54 : nbits S.natAbs ≤ 54 := nbits_le (by omega : S.natAbs < 2 ^ 54)
    by_cases h53 : nbits S.natAbs ≤ 53
    · obtain ⟨j, hj⟩ : ∃ j, nbits S.natAbs + j = 53 := ⟨53 - nbits S.natAbs, by omega⟩
      have q1 : S.natAbs * 2 ^ j < 9007199254740992 := by
        have : S.natAbs * 2 ^ j < 2 ^ nbits S.natAbs * 2 ^ j := Nat.mul_lt_mul_of_pos_right n3 (Nat.two_pow_pos _)
        rw [← Nat.pow_add, hj] at this
        exact this
      have q2 : 4503599627370496 ≤ S.natAbs * 2 ^ j := by
        have : 2 ^ (nbits S.natAbs - 1) * 2 ^ j ≤ S.natAbs * 2 ^ j := Nat.mul_le_mul_right _ n2
        rw [← Nat.pow_add, show nbits S.natAbs - 1 + j = 52 by omega] at this
        exact this
      obtain ⟨s, s1, s2, s3, s4, s5⟩ := bits_of (decide (S < 0)) (q := S.natAbs * 2 ^ j) (e := E - j) ⟨by omega, q1, .inl q2⟩ (by omega)
      refine ⟨s, s1, ?_, ?_⟩
      · exact rsum_is (N := S.natAbs) (x := j) s1 s3 (by omega) (by rw [hS, s2, sv_abs]) (.inr ⟨s4.symm, by rw [s5, Int.min_self]; omega⟩)
      · rw [rsubt_fin hb s3 fb]
        refine rsum_is (N := sig a * 2 ^ j) (x := j) ha fa (by omega) ?_ (.inl ⟨rfl, by rw [xa, s5, xb]; omega⟩)
        unfold ssum
        have hmin : min (xpo s) (xpo b) = E - j := by rw [s5, xb]; omega
        rw [hmin, s5, xb, Int.sub_self, upper_neg _ (Int.le_refl 0), upper_at (sig b) j (by omega), s2, s4, sv_mul, sv_mul, sv_mul, sv_abs, sv_not, ← Int.add_mul, hSd]
        congr 1
        omega
    · have h54 : nbits S.natAbs = 54 := by omega
      rw [h54] at n2
      have q2 : 9007199254740992 ≤ S.natAbs := n2
      obtain ⟨s, s1, s2, s3, s4, s5⟩ := bits_of (decide (S < 0)) (q := S.natAbs / 2) (e := E + 1) ⟨by omega, by omega, .inl (by omega)⟩ (by omega)
      have hd2 : S.natAbs / 2 * 2 = S.natAbs := by omega
      refine ⟨s, s1, ?_, ?_⟩
      · exact rsum_is (N := S.natAbs) (x := 1) s1 s3 (by omega) (by rw [hS, s2, sv_abs]) (.inl ⟨by rw [s4, Nat.pow_one]; omega, by rw [s5, Int.min_self]; omega⟩)
      · rw [rsubt_fin hb s3 fb]
        refine rsum_is (N := sig a) (x := 0) ha fa (by omega) ?_ (.inl ⟨by rw [Nat.pow_zero, Nat.mul_one], by rw [xa, s5, xb]; omega⟩)
        unfold ssum
        have hmin : min (xpo s) (xpo b) = E := by rw [s5, xb]; omega
        rw [hmin, xb, Int.sub_self, upper_neg _ (Int.le_refl 0), upper_at (sig s) 1 (by rw [s5]; omega), s2, s4, Nat.pow_one, hd2, sv_abs, sv_not, hSd]
        omega
end Go.Proofs.Ytjapilpjahhimaa
