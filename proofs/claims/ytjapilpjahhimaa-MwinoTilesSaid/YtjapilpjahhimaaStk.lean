/- Numbers with more behind them: plain numbers. No program is named here. -/
import Derived.Test.YtjapilpjahhimaaRndVal
namespace Go.Proofs.Ytjapilpjahhimaa

theorem tiny_frac {N d r : Nat} (hN : 0 < N) (hr : r < d) (exp : Int) : rtiny (N * d + r) d exp = decide ((nbits N : Int) + exp ≤ -1022) := by
  obtain ⟨a1, a2, a3⟩ := nbits_bounds (Nat.ne_of_gt hN)
  unfold rtiny
  by_cases h : 0 ≤ exp + 1022
  · have e : lower d (exp + 1022) = d := by unfold lower; rw [pw_of_le (by omega), Nat.mul_one]
    have h1 : N * d + r ≤ upper (N * d + r) (exp + 1022) := Nat.le_mul_of_pos_right _ (pw_pos _)
    have h2 : 1 * d ≤ N * d := Nat.mul_le_mul_right d hN
    rw [e, decide_eq_false (by omega : ¬ (nbits N : Int) + exp ≤ -1022)]
    exact decide_eq_false (by omega)
  · obtain ⟨k, hk⟩ : ∃ k : Nat, exp + 1022 = -(k : Int) := ⟨(-(exp + 1022)).toNat, by omega⟩
    have e : lower d (-(k : Int)) = d * 2 ^ k := by unfold lower; rw [Int.neg_neg, pw_nat]
    rw [upper_neg _ (by omega), hk, e]
    by_cases h1 : nbits N ≤ k
    · rw [decide_eq_true (by omega : (nbits N : Int) + exp ≤ -1022)]
      have h2 : N + 1 ≤ 2 ^ k := Nat.lt_of_lt_of_le a3 (Nat.pow_le_pow_right (by decide) h1)
      have h3 := Nat.mul_le_mul_right d h2
      rw [Nat.add_mul, Nat.one_mul, Nat.mul_comm (2 ^ k)] at h3
      exact decide_eq_true (by omega)
    · rw [decide_eq_false (by omega : ¬ (nbits N : Int) + exp ≤ -1022)]
      have h2 : 2 ^ k ≤ N := Nat.le_trans (Nat.pow_le_pow_right (by decide) (by omega)) a2
      have h3 := Nat.mul_le_mul_right d h2
      rw [Nat.mul_comm (2 ^ k)] at h3
      exact decide_eq_false (by omega)
theorem cmp_frac {s d r k : Nat} (hr0 : 0 < r) (hr : r < d) (hk : 1 ≤ k) : cmpN (2 * (s * d + r)) (d * 2 ^ k) = if 2 * s < 2 ^ k then -1 else 1 := by
  obtain ⟨j, rfl⟩ : ∃ j, k = j + 1 := ⟨k - 1, by omega⟩
  rw [Nat.pow_succ']
  generalize 2 ^ j = c
  have e : d * (2 * c) = 2 * (c * d) := by rw [Nat.mul_left_comm, Nat.mul_comm d c]
  rw [e]
  by_cases h : 2 * s < 2 * c
  · have h1 := Nat.mul_le_mul_right d (show s + 1 ≤ c by omega)
    rw [Nat.add_mul, Nat.one_mul] at h1
    rw [if_pos h]
    exact cmpN_lt (by omega)
  · have h1 := Nat.mul_le_mul_right d (show c ≤ s by omega)
    rw [if_neg h]
    exact cmpN_gt (by omega)
/-- a fraction behind a whole number counts as more -/
theorem rnd_frac {neg : Bool} {N d r : Nat} {exp mode : Int} (hN : 0 < N) (hr0 : 0 < r) (hr : r < d) (hk : exp + 1 ≤ rx N exp) :
    rnd neg (N * d + r) d exp mode = rnd neg (2 * N + 1) 1 (exp - 1) mode := by
  obtain ⟨k, hk'⟩ : ∃ k : Nat, rx N exp = exp + k := ⟨(rx N exp - exp).toNat, by omega⟩
  have hk1 : 1 ≤ k := by omega
  have hf := fits_down hN hk'
  rw [rnd_more hN hk' hk1]
  have hd : 0 < d := by omega
  have e1 : exp - (exp + (k : Int)) = -(k : Int) := by omega
  have el : lower d (-(k : Int)) = d * 2 ^ k := by unfold lower; rw [Int.neg_neg, pw_nat]
  have hs : N % 2 ^ k < 2 ^ k := Nat.mod_lt _ (Nat.two_pow_pos k)
  have hdm := Nat.div_add_mod N (2 ^ k)
  have hlt : N % 2 ^ k * d + r < d * 2 ^ k := by
    have h1 := Nat.mul_le_mul_right d (show N % 2 ^ k + 1 ≤ 2 ^ k from hs)
    rw [Nat.add_mul, Nat.one_mul] at h1
    rw [Nat.mul_comm d]
    omega
  have hq : N * d + r = N / 2 ^ k * (d * 2 ^ k) + (N % 2 ^ k * d + r) := by
    have h1 : (2 ^ k * (N / 2 ^ k) + N % 2 ^ k) * d = N * d := by rw [hdm]
    rw [Nat.add_mul] at h1
    have h2 : 2 ^ k * (N / 2 ^ k) * d = N / 2 ^ k * (d * 2 ^ k) := by
      rw [Nat.mul_comm (2 ^ k), Nat.mul_assoc, Nat.mul_comm (2 ^ k)]
    omega
  have hch := rnd_char (neg := neg) (mode := mode) (num := N * d + r) (den := d) (exp := exp) (e := exp + k) (q := N / 2 ^ k) (r := N % 2 ^ k * d + r) (by omega) hd hf
    (by rw [e1, upper_neg _ (by omega), el]; exact hq) (by rw [e1, el]; exact hlt)
  rw [hch, e1, el, decide_eq_true (by omega : N % 2 ^ k * d + r ≠ 0), tiny_frac hN hr, cmp_frac hr0 hr hk1]
/-- a power of two below the line -/
theorem rnd_under {neg : Bool} {num den k : Nat} {exp mode : Int} (hn : 0 < num) (hd : 0 < den) : rnd neg num (den * 2 ^ k) exp mode = rnd neg num den (exp - k) mode := by
  refine rnd_cross hn hd hn (Nat.mul_pos hd (Nat.two_pow_pos _)) fun e => ?_
  have h := pw_move (exp - k - e) k
  unfold upper lower
  rw [show exp - (k : Int) - e + k = exp - e by omega] at h
  generalize pw (exp - k - e) = a at *
  generalize pw (exp - e) = b at *
  generalize pw (-(exp - k - e)) = c at *
  generalize pw (-(exp - e)) = d at *
  generalize 2 ^ k = x at *
  calc num * b * (den * c) = num * den * (b * c) := by simp only [Nat.mul_comm, Nat.mul_left_comm]
    _ = num * den * (a * x * d) := by rw [h]
    _ = num * a * (den * x * d) := by simp only [Nat.mul_comm, Nat.mul_left_comm]
/-- bits far below count as more -/
theorem rnd_stick {neg : Bool} {N j r : Nat} {exp mode : Int} (hN : 0 < N) (hr0 : 0 < r) (hr : r < 2 ^ j) (hk : exp + 1 ≤ rx N exp) :
    rnd neg (N * 2 ^ j + r) 1 (exp - j) mode = rnd neg (2 * N + 1) 1 (exp - 1) mode := by
  rw [← rnd_frac (d := 2 ^ j) hN hr0 hr hk, ← rnd_under (by omega) (by decide), Nat.one_mul]
/-- sums, by the signs -/
theorem sv_add (neg : Bool) (m k : Nat) : sv neg m + sv neg k = sv neg (m + k) := by
  cases neg <;> simp [sv] <;> omega
theorem rsum_S {neg other : Bool} {m k : Nat} {p q mode : Int} {n S : Nat} (hp : p = q + n) (hS : sv neg (m * 2 ^ n) + sv other k = sv neg S) :
    rsum neg m p other k q mode = if S = 0 then (if neg = other then (sgn neg, 0) else (sgn (decide (mode = 4)), 0)) else rnd neg S 1 q mode := by
  have hm : min p q = q := by omega
  have h1 : ssum neg m p other k q = sv neg S := by
    unfold ssum
    rw [hm, show p - q = (n : Int) by omega, Int.sub_self, upper_nat, upper_neg k (by omega)]
    exact hS
  unfold rsum
  rw [h1, hm]
  by_cases h0 : S = 0
  · subst h0
    have : sv neg 0 = 0 := by cases neg <;> rfl
    rw [this, if_pos rfl, if_pos rfl]
  · have hp : 0 < S := by omega
    have d1 : decide (sv neg S < 0) = neg ∧ (sv neg S).natAbs = S ∧ sv neg S ≠ 0 := by
      cases neg
      · refine ⟨decide_eq_false ?_, ?_, ?_⟩ <;> simp [sv] <;> omega
      · refine ⟨decide_eq_true ?_, ?_, ?_⟩ <;> simp [sv] <;> omega
    rw [if_neg d1.2.2, if_neg h0, d1.1, d1.2.1]
theorem rsum_like {neg : Bool} {m k : Nat} {p q mode : Int} {n : Nat} (hp : p = q + n) :
    rsum neg m p neg k q mode = if m * 2 ^ n + k = 0 then (sgn neg, 0) else rnd neg (m * 2 ^ n + k) 1 q mode := by
  rw [rsum_S hp (sv_add neg _ _), if_pos rfl]
theorem rsum_unlike {neg other : Bool} {m k : Nat} {p q mode : Int} {n : Nat} (hp : p = q + n) (hs : neg ≠ other) (hk : k ≤ m * 2 ^ n) :
    rsum neg m p other k q mode = if m * 2 ^ n - k = 0 then (sgn (decide (mode = 4)), 0) else rnd neg (m * 2 ^ n - k) 1 q mode := by
  have h : sv neg (m * 2 ^ n) + sv other k = sv neg (m * 2 ^ n - k) := by
    generalize m * 2 ^ n = M at *
    cases neg <;> cases other <;> simp [sv] at * <;> omega
  rw [rsum_S hp h, if_neg hs]
/-- what Round is given, where it is not clamped and what is more counts -/
theorem prnd_plain {neg : Bool} {hi lo : Nat} {exp mode : Int} (h0 : hi * 18446744073709551616 + lo ≠ 0) (h1 : -16384 ≤ exp) (h2 : exp ≤ 16384) :
    prnd neg hi lo exp false mode = rnd neg (hi * 18446744073709551616 + lo) 1 exp mode := by
  have hcl : clampE exp = exp := by unfold clampE; omega
  unfold prnd
  rw [hcl, if_neg h0, if_neg (by intro h; exact Bool.noConfusion h.1)]
theorem prnd_more {neg : Bool} {hi lo : Nat} {exp mode : Int} (h0 : 18014398509481984 ≤ hi * 18446744073709551616 + lo) (h1 : -16384 ≤ exp) (h2 : exp ≤ 16384) :
    prnd neg hi lo exp true mode = rnd neg (2 * (hi * 18446744073709551616 + lo) + 1) 1 (exp - 1) mode := by
  have hcl : clampE exp = exp := by unfold clampE; omega
  unfold prnd
  generalize hi * 18446744073709551616 + lo = N at *
  have hb : 55 ≤ nbits N := by
    refine Nat.not_lt.1 fun h => ?_
    have h3 := nbits_lt N
    have h4 : 2 ^ nbits N ≤ 2 ^ 54 := Nat.pow_le_pow_right (by decide) (by omega)
    have h5 : (2 : Nat) ^ 54 = 18014398509481984 := rfl
    omega
  rw [hcl, if_neg (by omega), if_pos ⟨rfl, .inl hb⟩]
theorem rx_ge (N : Nat) (exp : Int) : (nbits N : Int) + exp - 53 ≤ rx N exp := by unfold rx; omega
theorem nbits_ge {N k : Nat} (h : 2 ^ k ≤ N) : k + 1 ≤ nbits N := by
  refine Nat.not_lt.1 fun h1 => ?_
  have h3 := nbits_lt N
  have h4 : 2 ^ nbits N ≤ 2 ^ k := Nat.pow_le_pow_right (by decide) (by omega)
  omega
end Go.Proofs.Ytjapilpjahhimaa
