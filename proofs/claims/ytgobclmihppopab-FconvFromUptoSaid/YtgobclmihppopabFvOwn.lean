/- Whole numbers near a number, by adding 2^52: plain numbers. No program is named here. -/
import Derived.Test.YtgobclmihppopabFvNum
import Derived.Test.YtgobclmihppopabFcNum
import Derived.Test.YtgobclmihppopabFlip
import Derived.Test.YtgobclmihppopabStk
namespace Go.Proofs.Ytgobclmihppopab

theorem big_52 (s : Bool) : cls (sgn s + 4841369599423283200) = 1 ∧ neg6 (sgn s + 4841369599423283200) = s ∧ sig (sgn s + 4841369599423283200) = 4503599627370496 ∧ xpo (sgn s + 4841369599423283200) = 0 ∧ sgn s + 4841369599423283200 < 18446744073709551616 ∧ flip (sgn s + 4841369599423283200) = sgn (!s) + 4841369599423283200 := by cases s <;> decide
/-- what stands farther from 0 by 2^52 -/
theorem far_fields {s : Bool} {q : Nat} (hq : q ≤ 4503599627370496) :
    cls (sgn s + (4841369599423283200 + q)) = 1 ∧ neg6 (sgn s + (4841369599423283200 + q)) = s ∧ ∃ n : Nat, xpo (sgn s + (4841369599423283200 + q)) = n ∧ sig (sgn s + (4841369599423283200 + q)) * 2 ^ n = 4503599627370496 + q := by
  obtain ⟨h1, h2⟩ := sgn_fields s (t := 4841369599423283200 + q) (by omega)
  have hn : neg6 (sgn s + (4841369599423283200 + q)) = s := by
    unfold neg6 sgn
    cases s
    · simp; omega
    · simp; omega
  by_cases hc : q = 4503599627370496
  · subst hc
    refine ⟨?_, hn, 1, ?_, ?_⟩
    · unfold cls; rw [h1, h2]; decide
    · unfold xpo; rw [h1]; decide
    · unfold sig; rw [h1, h2]; decide
  · have e1 : fe (sgn s + (4841369599423283200 + q)) = 1075 := by rw [h1]; omega
    have e2 : ff (sgn s + (4841369599423283200 + q)) = q := by rw [h2]; omega
    refine ⟨?_, hn, 0, ?_, ?_⟩
    · unfold cls; rw [e1, if_neg (by decide), if_neg (fun h => absurd h.1 (by decide))]
    · unfold xpo; rw [e1]; decide
    · unfold sig; rw [e1, e2, if_neg (by decide), Nat.pow_zero, Nat.mul_one]; omega
theorem rup_even {s : Bool} {mode half : Int} {q : Nat} {inx : Bool} : rup s mode (4503599627370496 + q) inx half = rup s mode q inx half := by
  unfold rup
  rw [show (4503599627370496 + q) % 2 = q % 2 by omega]
theorem mag_low {a : Nat} (h : mag a < 4841369599423283200) : fe a < 1075 := by
  have := mag_eq a
  have := ff_lt a
  omega
/-- a number below 2^52, and 2^52 with its sign -/
theorem whole_far {a : Nat} {mode : Int} (hm : mag a < 4841369599423283200) (h0 : sig a ≠ 0) :
    radd a (sgn (neg6 a) + 4841369599423283200) mode = (sgn (neg6 a) + (4841369599423283200 + wqA a mode), wflag a) ∧ wqA a mode ≤ 4503599627370496 := by
  have hfe := mag_low hm
  have hx : xpo a < 0 ∧ -1074 ≤ xpo a := by unfold xpo; split <;> omega
  obtain ⟨t, ht⟩ : ∃ t : Nat, xpo a = -(t : Int) := ⟨(-xpo a).toNat, by omega⟩
  have hsl : sig a < 9007199254740992 := by
    have := ff_lt a
    unfold sig; split <;> omega
  have hca : cls a ≤ 1 := cls_fin.2 (by omega)
  obtain ⟨b1, b2, b3, b4, _, _⟩ := big_52 (neg6 a)
  have e1 : radd a (sgn (neg6 a) + 4841369599423283200) mode = rsum (neg6 a) 4503599627370496 0 (neg6 a) (sig a) (xpo a) mode := by
    unfold radd
    rw [b1, b2, b3, b4, if_neg (by omega), if_neg (by omega), if_neg (by omega), if_neg (by omega), rsum_comm]
  have hq : wqA a mode ≤ 4503599627370496 := wq_small hsl hx.1
  have ht1 : 1 ≤ t := by omega
  have hp : 2 ≤ 2 ^ t := by
    obtain ⟨j, rfl⟩ : ∃ j, t = j + 1 := ⟨t - 1, by omega⟩
    have := Nat.two_pow_pos j
    rw [Nat.pow_succ]; omega
  have e2 : rsum (neg6 a) 4503599627370496 0 (neg6 a) (sig a) (xpo a) mode = rnd (neg6 a) (4503599627370496 * 2 ^ t + sig a) 1 (xpo a) mode := by
    rw [rsum_like (n := t) (by omega), if_neg (by omega)]
  have h52 : (4503599627370496 : Nat) = 2 ^ 52 := rfl
  have hN : 0 < 4503599627370496 * 2 ^ t + sig a := by omega
  have hnb : nbits (4503599627370496 * 2 ^ t + sig a) = 52 + t + 1 := by
    refine nbits_eq ?_ ?_
    · rw [Nat.pow_add]; exact Nat.le_add_right _ _
    · rw [Nat.pow_succ, Nat.pow_add, ← h52]; omega
  have hrx : rx (4503599627370496 * 2 ^ t + sig a) (xpo a) = xpo a + t := by
    unfold rx; rw [hnb]; omega
  have e3 := rnd_down (neg := neg6 a) (mode := mode) hN hrx
  have d1 : (4503599627370496 * 2 ^ t + sig a) / 2 ^ t = 4503599627370496 + sig a / 2 ^ t := by
    rw [Nat.mul_comm, Nat.mul_add_div (Nat.two_pow_pos t)]
  have d2 : (4503599627370496 * 2 ^ t + sig a) % 2 ^ t = sig a % 2 ^ t := by
    rw [Nat.mul_comm, Nat.mul_add_mod]
  have d3 : xpo a + (t : Int) = 0 := by omega
  have hf := fits_down hN hrx
  rw [d1, d3] at hf
  rw [d1, d2, d3, hnb, decide_eq_false (by omega : ¬ (((52 + t + 1 : Nat) : Int) + xpo a ≤ -1022)), fin_eq hf, rup_even] at e3
  have hw : wqA a mode = if rup (neg6 a) mode (sig a / 2 ^ t) (decide (sig a % 2 ^ t ≠ 0)) (cmpN (2 * (sig a % 2 ^ t)) (2 ^ t)) then sig a / 2 ^ t + 1 else sig a / 2 ^ t := by
    unfold wqA wq
    rw [if_neg (by omega), show (-xpo a).toNat = t by omega]
  have hfl : wflag a = rflags (decide (sig a % 2 ^ t ≠ 0)) false := by
    unfold wflag woA wo rflags
    rw [decide_eq_true hx.1, Bool.true_and, show (-xpo a).toNat = t by omega]
    split <;> rfl
  have hsum : (if rup (neg6 a) mode (sig a / 2 ^ t) (decide (sig a % 2 ^ t ≠ 0)) (cmpN (2 * (sig a % 2 ^ t)) (2 ^ t)) then 4503599627370496 + sig a / 2 ^ t + 1 else 4503599627370496 + sig a / 2 ^ t) = 4503599627370496 + wqA a mode := by
    rw [hw]
    split <;> omega
  rw [hsum, ← hfl, show ((0 : Int) + 1074).toNat = 1074 from rfl, if_neg (by omega)] at e3
  refine ⟨?_, hq⟩
  rw [e1, e2, e3, show 1074 * 4503599627370496 + (4503599627370496 + wqA a mode) = 4841369599423283200 + wqA a mode by omega]
/-- and back -/
theorem whole_near {s : Bool} {q : Nat} {mode : Int} (hq : q ≤ 4503599627370496) :
    rsubt (sgn s + (4841369599423283200 + q)) (sgn s + 4841369599423283200) mode = if q = 0 then (sgn (decide (mode = 4)), 0) else rnd s q 1 0 mode := by
  obtain ⟨f1, f2, n, f3, f4⟩ := far_fields (s := s) hq
  obtain ⟨b1, b2, b3, b4, _, b6⟩ := big_52 s
  obtain ⟨c1, c2, c3, c4, _, _⟩ := big_52 (!s)
  have h52 : sig (sgn s + (4841369599423283200 + q)) * 2 ^ n - 4503599627370496 = q := by rw [f4]; omega
  unfold rsubt
  rw [if_neg (by omega), b6]
  unfold radd
  rw [f1, c1, if_neg (by omega), if_neg (by omega), if_neg (by omega), if_neg (by omega), f2, f3, c2, c3, c4, rsum_unlike (n := n) (by omega) (by cases s <;> decide) (by rw [f4]; omega), h52]
theorem exact_any {s : Bool} {q : Nat} {mode : Int} (h0 : q ≠ 0) (hq : q ≤ 4503599627370496) : rnd s q 1 0 mode = ((rnd s q 1 0 0).1, 0) ∧ neg6 (rnd s q 1 0 0).1 = s ∧ (rnd s q 1 0 0).1 < 18446744073709551616 ∧ cls (rnd s q 1 0 0).1 ≤ 1 := by
  have hfl := rnd_few (neg := s) (N := q) (E := 0) (mode := 0) (by omega) (by omega) (by omega) (by omega)
  obtain ⟨b, hb⟩ : ∃ b, b = (rnd s q 1 0 0).1 := ⟨_, rfl⟩
  have hr : rnd s q 1 0 0 = (b, 0) := by rw [hb, ← hfl]
  rw [← hb]
  obtain ⟨k1, k2, k3, k4⟩ := rnd_exact (by omega) hr
  obtain ⟨k5, k6⟩ := rnd_neg (by omega) (by decide) hr
  refine ⟨?_, k5, k6, cls_fin.2 k2⟩
  have hsb : sig b ≠ 0 := by
    intro h
    rw [h, Nat.zero_mul] at k1
    have : 0 < upper q (0 - xpo b) := Nat.mul_pos (by omega) (pw_pos _)
    omega
  unfold upper lower pw at k1
  rw [Nat.one_mul] at k1
  rw [← k5]
  by_cases hx : 0 ≤ xpo b
  · rw [show (0 - xpo b).toNat = 0 by omega, Nat.pow_zero, Nat.mul_one, show (-(0 - xpo b)).toNat = (xpo b).toNat by omega] at k1
    exact rnd_is (k := (xpo b).toNat) k6 k2 hsb (.inl ⟨k1, by omega⟩)
  · rw [show (-(0 - xpo b)).toNat = 0 by omega, Nat.pow_zero, Nat.mul_one, show (0 - xpo b).toNat = (-xpo b).toNat by omega] at k1
    exact rnd_is (k := (-xpo b).toNat) k6 k2 hsb (.inr ⟨k1, by omega⟩)
theorem num_of {b : Nat} (h : cls b ≤ 2) : isNum b = true := by
  exact (isNum_cls b).2 (by omega)
/-- the sign, and what is near without its own -/
theorem whole_bits {s : Bool} {q : Nat} {mode : Int} (hq : q ≤ 4503599627370496) :
    (if q = 0 then (sgn (decide (mode = 4)), 0) else rnd s q 1 0 mode).1 ≤ 18446744073709551615 ∧ sgn s + absB (if q = 0 then (sgn (decide (mode = 4)), 0) else rnd s q 1 0 mode).1 = wbits s q ∧ absB (if q = 0 then (sgn (decide (mode = 4)), 0) else rnd s q 1 0 mode).1 < 9223372036854775808 := by
  unfold wbits
  by_cases h0 : q = 0
  · rw [if_pos h0, if_pos h0]
    cases s <;> cases (decide (mode = 4)) <;> decide
  · rw [if_neg h0, if_neg h0]
    obtain ⟨e1, e2, e3, e4⟩ := exact_any (s := s) (mode := mode) h0 hq
    rw [e1]
    generalize (rnd s q 1 0 0).1 = b at *
    unfold absB
    rw [num_of (by omega), if_pos rfl]
    subst e2
    unfold mag sgn neg6
    refine ⟨by omega, ?_, by omega⟩
    by_cases c : (9223372036854775808 : Int) ≤ (b : Int)
    · rw [decide_eq_true c, if_pos rfl]; omega
    · rw [decide_eq_false c, if_neg Bool.false_ne_true]; omega
/-- numbers from 2^52 on are whole -/
theorem whole_great {a : Nat} {mode : Int} (ha : a < 18446744073709551616) (hc : cls a = 1) (hm : ¬ mag a < 4841369599423283200) : wholeB a mode = (a, 0) := by
  have hfe : 1075 ≤ fe a := by
    have := mag_eq a
    have := ff_lt a
    omega
  have hx : 0 ≤ xpo a := by unfold xpo; split <;> omega
  have hs := sig_pos hc
  unfold wholeB
  rw [if_neg (by omega), if_neg (by omega)]
  have e1 : wqA a mode = sig a * 2 ^ (xpo a).toNat := by unfold wqA wq; rw [if_pos hx]
  have e2 : wflag a = 0 := by
    unfold wflag woA wo
    rw [decide_eq_false (by omega), Bool.false_and, if_neg Bool.false_ne_true]
  unfold wbits
  rw [e1, e2, if_neg (Nat.ne_of_gt (Nat.mul_pos hs (Nat.two_pow_pos _))), rnd_is (k := (xpo a).toNat) ha (cls_fin.1 (by omega)) (by omega) (.inl ⟨rfl, by omega⟩)]
theorem whole_zero {a : Nat} {mode : Int} (ha : a < 18446744073709551616) (hc : cls a = 0) : wholeB a mode = (a, 0) := by
  have hs := (cls_zero_iff (by omega)).1 hc
  obtain ⟨z1, z2⟩ := sig_zero ha hs
  have e1 : wqA a mode = 0 := by
    unfold wqA wq
    rw [hs, z2, if_neg (by decide), Nat.zero_div, Nat.zero_mod, Nat.mul_zero]
    have hp : 0 < 2 ^ (-(-1074 : Int)).toNat := Nat.two_pow_pos _
    rw [cmpN_lt hp]
    have : rup (neg6 a) mode 0 (decide ((0 : Nat) ≠ 0)) (-1) = false := by
      unfold rup
      cases neg6 a <;> simp
    rw [this, if_neg Bool.false_ne_true]
  have e2 : wflag a = 0 := by
    unfold wflag woA wo
    rw [hs, Nat.zero_mod]
    simp
  unfold wholeB
  rw [if_neg (by omega), if_neg (by omega), e1, e2]
  unfold wbits
  rw [if_pos rfl, ← z1]
theorem whole_inf {a : Nat} {mode : Int} (hc : cls a = 2) : wholeB a mode = (a, 0) := by unfold wholeB; rw [if_neg (by omega), if_pos hc]
theorem whole_nan {a : Nat} {mode : Int} (hc : cls a = 3) : wholeB a mode = (9221120237041090560, 0) := by unfold wholeB; rw [if_pos hc]
theorem whole_fin {a : Nat} {mode : Int} (hc : cls a = 1) : wholeB a mode = (wbits (neg6 a) (wqA a mode), wflag a) := by unfold wholeB; rw [if_neg (by omega), if_neg (by omega)]
end Go.Proofs.Ytgobclmihppopab
