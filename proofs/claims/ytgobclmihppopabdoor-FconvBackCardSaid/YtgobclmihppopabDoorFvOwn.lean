/- Whole numbers near a number, by adding 2^52: plain numbers. No program is named here. -/
import Derived.Test.YtgobclmihppopabDoorFvNum
import Derived.Test.YtgobclmihppopabDoorFcNum
import Derived.Test.YtgobclmihppopabDoorFlip
import Derived.Test.YtgobclmihppopabDoorStk
import Derived.Test.YtgobclmihppopabDoorFaOwn
import Derived.Lib.Hide
import Derived.Test.YtgobclmihppopabDoorNum
import Derived.Test.YtgobclmihppopabDoorPaSpec
import Derived.Test.YtgobclmihppopabDoorNums
import Derived.Laws.CopyOwn
import Derived.Deep.RegionLaw
import Derived.BigRegion
namespace Go.Proofs.YtgobclmihppopabDoor

theorem big_52 (s : Bool) : cls (sgn s + 4841369599423283200) = 1 ∧ neg6 (sgn s + 4841369599423283200) = s ∧ sig (sgn s + 4841369599423283200) = 4503599627370496 ∧ xpo (sgn s + 4841369599423283200) = 0 ∧ sgn s + 4841369599423283200 < 18446744073709551616 ∧ flip (sgn s + 4841369599423283200) = sgn (!s) + 4841369599423283200 := by cases s <;> decide
/-- what stands farther from 0 by 2^52 -/
theorem far_fields {s : Bool} {q : Nat} (hq : q ≤ 4503599627370496) :
    cls (sgn s + (4841369599423283200 + q)) = 1 ∧ neg6 (sgn s + (4841369599423283200 + q)) = s ∧ ∃ n : Nat, xpo (sgn s + (4841369599423283200 + q)) = n ∧ sig (sgn s + (4841369599423283200 + q)) * 2 ^ n = 4503599627370496 + q := by
  obtain ⟨h1, h2⟩ := sgn_fields s (t := 4841369599423283200 + q) (by omega)
  have hn : neg6 (sgn s + (4841369599423283200 + q)) = s := by
    unfold neg6 sgn
    cases s
    · simp; omega
    · simp; omega
  by_cases hc : q = 4503599627370496
  · subst hc
    refine ⟨?_, hn, 1, ?_, ?_⟩
    · unfold cls; rw [h1, h2]; decide
    · unfold xpo; rw [h1]; decide
    · unfold sig; rw [h1, h2]; decide
  · have e1 : fe (sgn s + (4841369599423283200 + q)) = 1075 := by rw [h1]; omega
    have e2 : ff (sgn s + (4841369599423283200 + q)) = q := by rw [h2]; omega
    refine ⟨?_, hn, 0, ?_, ?_⟩
    · unfold cls; rw [e1, if_neg (by decide), if_neg (fun h => absurd h.1 (by decide))]
    · unfold xpo; rw [e1]; decide
    · unfold sig; rw [e1, e2, if_neg (by decide), Nat.pow_zero, Nat.mul_one]; omega
theorem rup_even {s : Bool} {mode half : Int} {q : Nat} {inx : Bool} : rup s mode (4503599627370496 + q) inx half = rup s mode q inx half := by
  unfold rup
  rw [show (4503599627370496 + q) % 2 = q % 2 by omega]
theorem mag_low {a : Nat} (h : mag a < 4841369599423283200) : fe a < 1075 := by
  have := mag_eq a
  have := ff_lt a
  omega
/-- a number below 2^52, and 2^52 with its sign -/
theorem whole_far {a : Nat} {mode : Int} (hm : mag a < 4841369599423283200) (h0 : sig a ≠ 0) :
    radd a (sgn (neg6 a) + 4841369599423283200) mode = (sgn (neg6 a) + (4841369599423283200 + wqA a mode), wflag a) ∧ wqA a mode ≤ 4503599627370496 := by
  have hfe := mag_low hm
  have hx : xpo a < 0 ∧ -1074 ≤ xpo a := by unfold xpo; split <;> omega
  obtain ⟨t, ht⟩ : ∃ t : Nat, xpo a = -(t : Int) := ⟨(-xpo a).toNat, by omega⟩
  have hsl : sig a < 9007199254740992 := by
    have := ff_lt a
    unfold sig; split <;> omega
  have hca : cls a ≤ 1 := cls_fin.2 (by omega)
  obtain ⟨b1, b2, b3, b4, _, _⟩ := big_52 (neg6 a)
  have e1 : radd a (sgn (neg6 a) + 4841369599423283200) mode = rsum (neg6 a) 4503599627370496 0 (neg6 a) (sig a) (xpo a) mode := by
    unfold radd
    rw [b1, b2, b3, b4, if_neg (by omega), if_neg (by omega), if_neg (by omega), if_neg (by omega), rsum_comm]
  have hq : wqA a mode ≤ 4503599627370496 := wq_small hsl hx.1
  have ht1 : 1 ≤ t := by omega
  have hp : 2 ≤ 2 ^ t := by
    obtain ⟨j, rfl⟩ : ∃ j, t = j + 1 := ⟨t - 1, by omega⟩
    have := Nat.two_pow_pos j
    rw [Nat.pow_succ]; omega
  have e2 : rsum (neg6 a) 4503599627370496 0 (neg6 a) (sig a) (xpo a) mode = rnd (neg6 a) (4503599627370496 * 2 ^ t + sig a) 1 (xpo a) mode := by
    rw [rsum_like (n := t) (by omega), if_neg (by omega)]
  have h52 : (4503599627370496 : Nat) = 2 ^ 52 := rfl
  have hN : 0 < 4503599627370496 * 2 ^ t + sig a := by omega
  have hnb : nbits (4503599627370496 * 2 ^ t + sig a) = 52 + t + 1 := by
    refine nbits_eq ?_ ?_
    · rw [Nat.pow_add]; exact Nat.le_add_right _ _
    · rw [Nat.pow_succ, Nat.pow_add, ← h52]; omega
  have hrx : rx (4503599627370496 * 2 ^ t + sig a) (xpo a) = xpo a + t := by
    unfold rx; rw [hnb]; omega
  have e3 := rnd_down (neg := neg6 a) (mode := mode) hN hrx
  have d1 : (4503599627370496 * 2 ^ t + sig a) / 2 ^ t = 4503599627370496 + sig a / 2 ^ t := by
    rw [Nat.mul_comm, Nat.mul_add_div (Nat.two_pow_pos t)]
  have d2 : (4503599627370496 * 2 ^ t + sig a) % 2 ^ t = sig a % 2 ^ t := by
    rw [Nat.mul_comm, Nat.mul_add_mod]
  have d3 : xpo a + (t : Int) = 0 := by omega
  have hf := fits_down hN hrx
  rw [d1, d3] at hf
  rw [d1, d2, d3, hnb, decide_eq_false (by omega : ¬ (((52 + t + 1 : Nat) : Int) + xpo a ≤ -1022)), fin_eq hf, rup_even] at e3
  have hw : wqA a mode = if rup (neg6 a) mode (sig a / 2 ^ t) (decide (sig a % 2 ^ t ≠ 0)) (cmpN (2 * (sig a % 2 ^ t)) (2 ^ t)) then sig a / 2 ^ t + 1 else sig a / 2 ^ t := by
    unfold wqA wq
    rw [if_neg (by omega), show (-xpo a).toNat = t by omega]
  have hfl : wflag a = rflags (decide (sig a % 2 ^ t ≠ 0)) false := by
    unfold wflag woA wo rflags
    rw [decide_eq_true hx.1, Bool.true_and, show (-xpo a).toNat = t by omega]
    split <;> rfl
  have hsum : (if rup (neg6 a) mode (sig a / 2 ^ t) (decide (sig a % 2 ^ t ≠ 0)) (cmpN (2 * (sig a % 2 ^ t)) (2 ^ t)) then 4503599627370496 + sig a / 2 ^ t + 1 else 4503599627370496 + sig a / 2 ^ t) = 4503599627370496 + wqA a mode := by
    rw [hw]
    split <;> omega
  rw [hsum, ← hfl, show ((0 : Int) + 1074).toNat = 1074 from rfl, if_neg (by omega)] at e3
  refine ⟨?_, hq⟩
  rw [e1, e2, e3, show 1074 * 4503599627370496 + (4503599627370496 + wqA a mode) = 4841369599423283200 + wqA a mode by omega]
/-- and back -/
theorem whole_near {s : Bool} {q : Nat} {mode : Int} (hq : q ≤ 4503599627370496) :
    rsubt (sgn s + (4841369599423283200 + q)) (sgn s + 4841369599423283200) mode = if q = 0 then (sgn (decide (mode = 4)), 0) else rnd s q 1 0 mode := by
  obtain ⟨f1, f2, n, f3, f4⟩ := far_fields (s := s) hq
  obtain ⟨b1, b2, b3, b4, _, b6⟩ := big_52 s
  obtain ⟨c1, c2, c3, c4, _, _⟩ := big_52 (!s)
  have h52 : sig (sgn s + (4841369599423283200 + q)) * 2 ^ n - 4503599627370496 = q := by rw [f4]; omega
  unfold rsubt
  rw [if_neg (by omega), b6]
  unfold radd
  rw [f1, c1, if_neg (by omega), if_neg (by omega), if_neg (by omega), if_neg (by omega), f2, f3, c2, c3, c4, rsum_unlike (n := n) (by omega) (by cases s <;> decide) (by rw [f4]; omega), h52]
theorem exact_any {s : Bool} {q : Nat} {mode : Int} (h0 : q ≠ 0) (hq : q ≤ 4503599627370496) : rnd s q 1 0 mode = ((rnd s q 1 0 0).1, 0) ∧ neg6 (rnd s q 1 0 0).1 = s ∧ (rnd s q 1 0 0).1 < 18446744073709551616 ∧ cls (rnd s q 1 0 0).1 ≤ 1 := by
  have hfl := rnd_few (neg := s) (N := q) (E := 0) (mode := 0) (by omega) (by omega) (by omega) (by omega)
  obtain ⟨b, hb⟩ : ∃ b, b = (rnd s q 1 0 0).1 := ⟨_, rfl⟩
  have hr : rnd s q 1 0 0 = (b, 0) := by rw [hb, ← hfl]
  rw [← hb]
  obtain ⟨k1, k2, k3, k4⟩ := rnd_exact (by omega) hr
  obtain ⟨k5, k6⟩ := rnd_neg (by omega) (by decide) hr
  refine ⟨?_, k5, k6, cls_fin.2 k2⟩
  have hsb : sig b ≠ 0 := by
    intro h
    rw [h, Nat.zero_mul] at k1
    have : 0 < upper q (0 - xpo b) := Nat.mul_pos (by omega) (pw_pos _)
    omega
  unfold upper lower pw at k1
  rw [Nat.one_mul] at k1
  rw [← k5]
  by_cases hx : 0 ≤ xpo b
  · rw [show (0 - xpo b).toNat = 0 by omega, Nat.pow_zero, Nat.mul_one, show (-(0 - xpo b)).toNat = (xpo b).toNat by omega] at k1
    exact rnd_is (k := (xpo b).toNat) k6 k2 hsb (.inl ⟨k1, by omega⟩)
  · rw [show (-(0 - xpo b)).toNat = 0 by omega, Nat.pow_zero, Nat.mul_one, show (0 - xpo b).toNat = (-xpo b).toNat by omega] at k1
    exact rnd_is (k := (-xpo b).toNat) k6 k2 hsb (.inr ⟨k1, by omega⟩)
theorem num_of {b : Nat} (h : cls b ≤ 2) : isNum b = true := by
  exact (isNum_cls b).2 (by omega)
/-- the sign, and what is near without its own -/
theorem whole_bits {s : Bool} {q : Nat} {mode : Int} (hq : q ≤ 4503599627370496) :
    (if q = 0 then (sgn (decide (mode = 4)), 0) else rnd s q 1 0 mode).1 ≤ 18446744073709551615 ∧ sgn s + absB (if q = 0 then (sgn (decide (mode = 4)), 0) else rnd s q 1 0 mode).1 = wbits s q ∧ absB (if q = 0 then (sgn (decide (mode = 4)), 0) else rnd s q 1 0 mode).1 < 9223372036854775808 := by
  unfold wbits
  by_cases h0 : q = 0
  · rw [if_pos h0, if_pos h0]
    cases s <;> cases (decide (mode = 4)) <;> decide
  · rw [if_neg h0, if_neg h0]
    obtain ⟨e1, e2, e3, e4⟩ := exact_any (s := s) (mode := mode) h0 hq
    rw [e1]
    generalize (rnd s q 1 0 0).1 = b at *
    unfold absB
    rw [num_of (by omega), if_pos rfl]
    subst e2
    unfold mag sgn neg6
    refine ⟨by omega, ?_, by omega⟩
    by_cases c : (9223372036854775808 : Int) ≤ (b : Int)
    · rw [decide_eq_true c, if_pos rfl]; omega
    · rw [decide_eq_false c, if_neg Bool.false_ne_true]; omega
/-- numbers from 2^52 on are whole -/
theorem whole_great {a : Nat} {mode : Int} (ha : a < 18446744073709551616) (hc : cls a = 1) (hm : ¬ mag a < 4841369599423283200) : wholeB a mode = (a, 0) := by
  have hfe : 1075 ≤ fe a := by
    have := mag_eq a
    have := ff_lt a
    omega
  have hx : 0 ≤ xpo a := by unfold xpo; split <;> omega
  have hs := sig_pos hc
  unfold wholeB
  rw [if_neg (by omega), if_neg (by omega)]
  have e1 : wqA a mode = sig a * 2 ^ (xpo a).toNat := by unfold wqA wq; rw [if_pos hx]
  have e2 : wflag a = 0 := by
    unfold wflag woA wo
    rw [decide_eq_false (by omega), Bool.false_and, if_neg Bool.false_ne_true]
  unfold wbits
  rw [e1, e2, if_neg (Nat.ne_of_gt (Nat.mul_pos hs (Nat.two_pow_pos _))), rnd_is (k := (xpo a).toNat) ha (cls_fin.1 (by omega)) (by omega) (.inl ⟨rfl, by omega⟩)]
theorem whole_zero {a : Nat} {mode : Int} (ha : a < 18446744073709551616) (hc : cls a = 0) : wholeB a mode = (a, 0) := by
  have hs := (cls_zero_iff (by omega)).1 hc
  obtain ⟨z1, z2⟩ := sig_zero ha hs
  have e1 : wqA a mode = 0 := by
    unfold wqA wq
    rw [hs, z2, if_neg (by decide), Nat.zero_div, Nat.zero_mod, Nat.mul_zero]
    have hp : 0 < 2 ^ (-(-1074 : Int)).toNat := Nat.two_pow_pos _
    rw [cmpN_lt hp]
    have : rup (neg6 a) mode 0 (decide ((0 : Nat) ≠ 0)) (-1) = false := by
      unfold rup
      cases neg6 a <;> simp
    rw [this, if_neg Bool.false_ne_true]
  have e2 : wflag a = 0 := by
    unfold wflag woA wo
    rw [hs, Nat.zero_mod]
    simp
  unfold wholeB
  rw [if_neg (by omega), if_neg (by omega), e1, e2]
  unfold wbits
  rw [if_pos rfl, ← z1]
theorem whole_inf {a : Nat} {mode : Int} (hc : cls a = 2) : wholeB a mode = (a, 0) := by unfold wholeB; rw [if_neg (by omega), if_pos hc]
theorem whole_nan {a : Nat} {mode : Int} (hc : cls a = 3) : wholeB a mode = (9221120237041090560, 0) := by unfold wholeB; rw [if_pos hc]
theorem whole_fin {a : Nat} {mode : Int} (hc : cls a = 1) : wholeB a mode = (wbits (neg6 a) (wqA a mode), wflag a) := by unfold wholeB; rw [if_neg (by omega), if_neg (by omega)]
end Go.Proofs.YtgobclmihppopabDoor

/- fconv.Whole, ToInt: what they keep. -/
namespace Go.Proofs.YtgobclmihppopabDoor
open Go.RowKit Go.Shelf

theorem and_sign {a : Nat} (ha : a < 18446744073709551616) : bits .and .u64 (a : Int) 9223372036854775808 = (sgn (neg6 a) : Int) := by
  have h := bits_and_u64_nat a 9223372036854775808 ha (by omega)
  have d1 := Nat.and_div_two_pow (a := a) (b := 9223372036854775808) (n := 63)
  have d2 := Nat.and_mod_two_pow (a := a) (b := 9223372036854775808) (n := 63)
  rw [show 9223372036854775808 / 2 ^ 63 = 1 from rfl, Nat.and_one_is_mod] at d1
  rw [show 9223372036854775808 % 2 ^ 63 = 0 from rfl, Nat.and_zero] at d2
  rw [show (9223372036854775808 : Int) = ((9223372036854775808 : Nat) : Int) from rfl, h]
  generalize a &&& 9223372036854775808 = c at *
  unfold neg6 sgn
  by_cases hc : (9223372036854775808 : Int) ≤ (a : Int)
  · rw [decide_eq_true hc, show c = 9223372036854775808 by omega]; rfl
  · rw [decide_eq_false hc, show c = 0 by omega]; rfl
theorem key_low {a : Nat} (h : a < 9223372036854775808) : key a = (a : Int) := by
  have hm : mag a = a := by unfold mag; omega
  have hn : neg6 a = false := by unfold neg6; exact decide_eq_false (by omega)
  unfold key
  rw [hm, hn, if_neg Bool.false_ne_true]
theorem mag_lt (a : Nat) : mag a < 9223372036854775808 := Nat.mod_lt _ (by decide)
theorem less_low {a k : Nat} (hc : cls a ≠ 3) (hk : k ≤ 9218868437227405312) : kless (absB a) k = decide (mag a < k) := by
  have hi := (isNum_cls a).2 hc
  have hm : mag a ≤ 9218868437227405312 := by
    unfold isNum at hi
    exact of_decide_eq_true hi
  have h1 : absB a = mag a := by unfold absB; rw [hi, if_pos rfl]
  have h2 : isNum (mag a) = true := by unfold isNum; refine decide_eq_true ?_; unfold mag at *; omega
  have h3 : isNum k = true := by unfold isNum; refine decide_eq_true ?_; unfold mag; omega
  unfold kless
  rw [h1, h2, h3, key_low (mag_lt a), key_low (by omega)]
  simp only [Bool.and_self, Bool.true_and]
  exact decide_eq_decide.2 (by omega)
set_option maxRecDepth 100000 in
set_option maxHeartbeats 8000000 in
theorem fconv_whole {a : Nat} {mode : Int} {w : World} (ha : (a : Int) ≤ 18446744073709551615) :
    Calls Tryd.prog 13 #[.int .u64 (a : Int), .int .i64 mode] w fun e W' => e = .returned (.tuple #[.int .u64 ((wholeB a mode).1 : Int), .int .i64 ((wholeB a mode).2 : Int)]) ∧ Below w.heap.size w W' := by
  have hA := fun u => pclass1 (w := u) ha
  have ca3 := cls_le a
  have ca4 : cls a = 0 ∨ cls a = 1 ∨ cls a = 2 ∨ cls a = 3 := by omega
  clear ca3
  rcases ca4 with hc | hc | hc | hc
  · rw [whole_zero (by omega) hc]
    rw [hc] at hA
    clear hc
    go_enter Tryd.func13, Tryd.ntmps13
    go_wp2_with fail
    refine (hA _).mono ?_
    rintro e w1 ⟨rfl, rfl⟩
    clear hA
    go_wp2
    go_ret2
    exact ⟨rfl, Below.refl _ _⟩
  · have hab := fun u => fcmp_abs (w := u) ha
    have hml := mag_lt a
    have habs : (absB a : Int) ≤ 18446744073709551615 := by
      unfold absB
      split <;> omega
    have hls := fun u => fcmp_less (a := absB a) (b := 4841369599423283200) (w := u) habs (by decide)
    rw [less_low (by omega) (by decide)] at hls
    by_cases hm : mag a < 4841369599423283200
    · have h0 : sig a ≠ 0 := Nat.ne_of_gt (sig_pos hc)
      obtain ⟨e1, hq⟩ := whole_far (mode := mode) hm h0
      rw [decide_eq_true hm] at hls
      have e2 := whole_near (s := neg6 a) (mode := mode) hq
      obtain ⟨l1, l2, l3⟩ := whole_bits (s := neg6 a) (mode := mode) hq
      rw [whole_fin hc]
      rw [hc] at hA
      have hs := and_sign (a := a) (by omega)
      have ho := or_sign (neg6 a) (q := 4841369599423283200) (by omega)
      have ho2 := or_sign (neg6 a) l3
      rw [l2] at ho2
      have hbl := (big_52 (neg6 a)).2.2.2.2.1
      have hadd := fun u => fadd_add (a := a) (b := sgn (neg6 a) + 4841369599423283200) (mode := mode) (w := u) ha (by omega)
      rw [e1] at hadd
      dsimp only at hadd
      have hsg : sgn (neg6 a) ≤ 9223372036854775808 := sgn_le _
      have hsub := fun u => fadd_sub (a := sgn (neg6 a) + (4841369599423283200 + wqA a mode)) (b := sgn (neg6 a) + 4841369599423283200) (mode := mode) (w := u) (by omega) (by omega)
      rw [e2] at hsub
      generalize (if wqA a mode = 0 then (sgn (decide (mode = 4)), 0) else rnd (neg6 a) (wqA a mode) 1 0 mode) = R at *
      obtain ⟨r, rf⟩ := R
      dsimp only at hsub l1 l2 l3 ho2
      have hab2 := fun u => fcmp_abs (a := r) (w := u) (by omega)
      have hsi : (sgn (neg6 a) : Int) ≤ 18446744073709551615 := by omega
      have hwb : (wbits (neg6 a) (wqA a mode) : Int) ≤ 18446744073709551615 := by rw [← l2]; omega
      have hai : (absB r : Int) ≤ 18446744073709551615 := by omega
      replace ho : bits .or .u64 (sgn (neg6 a) : Int) 4841369599423283200 = ((sgn (neg6 a) + 4841369599423283200 : Nat) : Int) := ho
      replace hls : ∀ u, Calls Tryd.prog 22 #[.int .u64 (absB a : Int), .int .u64 4841369599423283200] u fun e W' => e = .returned (.bool true) ∧ Below u.heap.size u W' := hls
      generalize wbits (neg6 a) (wqA a mode) = q at *
      generalize sgn (neg6 a) + (4841369599423283200 + wqA a mode) = F at *
      generalize sgn (neg6 a) + 4841369599423283200 = B at *
      generalize sgn (neg6 a) = s at *
      generalize absB a = m at *
      generalize absB r = m2 at *
      generalize wflag a = f at *
      clear l1 l2 l3 e1 e2 hq hm h0 hml hc hsg hbl
      go_enter Tryd.func13, Tryd.ntmps13
      go_wp2_with fail
      refine (hA _).mono ?_
      rintro e w1 ⟨rfl, rfl⟩
      clear hA
      go_wp2_with fail
      refine (hab _).mono ?_
      rintro e w2 ⟨rfl, b1⟩
      clear hab
      go_wp2_with fail
      refine (hls _).mono ?_
      rintro e w3 ⟨rfl, b2⟩
      replace b1 := below_both b1 b2
      clear hls b2
      go_wp2_with fail
      refine (hadd _).mono ?_
      rintro e w4 ⟨rfl, b2⟩
      replace b1 := below_both b1 b2
      clear hadd b2
      go_wp2_with fail
      refine (hsub _).mono ?_
      rintro e w5 ⟨rfl, b2⟩
      replace b1 := below_both b1 b2
      clear hsub b2
      go_wp2_with fail
      refine (hab2 _).mono ?_
      rintro e w6 ⟨rfl, b2⟩
      replace b1 := below_both b1 b2
      clear hab2 b2
      go_wp2
      go_ret2
      exact ⟨rfl, b1⟩
    · rw [decide_eq_false hm] at hls
      rw [whole_great (by omega) hc hm]
      rw [hc] at hA
      replace hls : ∀ u, Calls Tryd.prog 22 #[.int .u64 (absB a : Int), .int .u64 4841369599423283200] u fun e W' => e = .returned (.bool false) ∧ Below u.heap.size u W' := hls
      generalize absB a = m at *
      clear hm hml hc
      go_enter Tryd.func13, Tryd.ntmps13
      go_wp2_with fail
      refine (hA _).mono ?_
      rintro e w1 ⟨rfl, rfl⟩
      clear hA
      go_wp2_with fail
      refine (hab _).mono ?_
      rintro e w2 ⟨rfl, b1⟩
      clear hab
      go_wp2_with fail
      refine (hls _).mono ?_
      rintro e w3 ⟨rfl, b2⟩
      replace b1 := below_both b1 b2
      go_wp2
      go_ret2
      exact ⟨rfl, b1⟩
  · rw [whole_inf hc]
    rw [hc] at hA
    clear hc
    go_enter Tryd.func13, Tryd.ntmps13
    go_wp2_with fail
    refine (hA _).mono ?_
    rintro e w1 ⟨rfl, rfl⟩
    clear hA
    go_wp2
    go_ret2
    exact ⟨rfl, Below.refl _ _⟩
  · rw [whole_nan hc]
    rw [hc] at hA
    clear hc
    go_enter Tryd.func13, Tryd.ntmps13
    go_wp2_with fail
    refine (hA _).mono ?_
    rintro e w1 ⟨rfl, rfl⟩
    clear hA
    go_wp2
    go_ret2
    exact ⟨rfl, Below.refl _ _⟩
/- ToInt -/
theorem cmpN_mul {x y c : Nat} (hc : 0 < c) : cmpN (x * c) (y * c) = cmpN x y := by
  rcases Nat.lt_trichotomy x y with h | h | h
  · rw [cmpN_lt h, cmpN_lt (Nat.mul_lt_mul_of_pos_right h hc)]
  · rw [h, cmpN_self, cmpN_self]
  · rw [cmpN_gt h, cmpN_gt (Nat.mul_lt_mul_of_pos_right h hc)]
theorem great_62 : sig 4886405595696988160 = 2 ^ 52 ∧ xpo 4886405595696988160 = 10 ∧ mag 4886405595696988160 = 4886405595696988160 := by decide
/-- which whole numbers are beyond 2^62 -/
theorem mag_62 {b q : Nat} (h : sig b * 2 ^ (xpo b - min (xpo b) 0).toNat = q * 2 ^ (-min (xpo b) 0).toNat) : cmpN (mag b) 4886405595696988160 = cmpN q 4611686018427387904 := by
  have hs := scaled_cmp b 4886405595696988160
  obtain ⟨g1, g2, g3⟩ := great_62
  rw [g1, g2, g3] at hs
  rw [← hs]
  have h62 : (4611686018427387904 : Nat) = 2 ^ 62 := rfl
  by_cases hx : 0 ≤ xpo b
  · rw [show (xpo b - min (xpo b) 0).toNat = (xpo b).toNat by omega, show (-min (xpo b) 0).toNat = 0 by omega, Nat.pow_zero, Nat.mul_one] at h
    obtain ⟨m, hm⟩ : ∃ m : Nat, min (xpo b) 10 = m := ⟨(min (xpo b) 10).toNat, by omega⟩
    rw [hm, ← h, h62, ← cmpN_mul (Nat.two_pow_pos m), Nat.mul_assoc, Nat.mul_assoc, ← Nat.pow_add, ← Nat.pow_add, ← Nat.pow_add, show (xpo b - (m : Int)).toNat + m = (xpo b).toNat by omega, show 52 + (((10 : Int) - (m : Int)).toNat + m) = 62 by omega]
  · rw [show (xpo b - min (xpo b) 0).toNat = 0 by omega, show (-min (xpo b) 0).toNat = (-xpo b).toNat by omega, Nat.pow_zero, Nat.mul_one] at h
    rw [show min (xpo b) 10 = xpo b by omega, show (xpo b - xpo b).toNat = 0 by omega, Nat.pow_zero, Nat.mul_one, h, ← Nat.pow_add, h62, show 52 + ((10 : Int) - xpo b).toNat = 62 + (-xpo b).toNat by omega, Nat.pow_add, cmpN_mul (Nat.two_pow_pos _)]
theorem cmp_low {a k : Nat} (hc : cls a ≠ 3) (hk : k ≤ 9218868437227405312) : kcmp (absB a) k = (cmpN (mag a) k, true) := by
  have hi := (isNum_cls a).2 hc
  have hm : mag a ≤ 9218868437227405312 := by
    unfold isNum at hi
    exact of_decide_eq_true hi
  have h1 : absB a = mag a := by unfold absB; rw [hi, if_pos rfl]
  have h2 : isNum (mag a) = true := by unfold isNum; refine decide_eq_true ?_; unfold mag at *; omega
  have h3 : isNum k = true := by unfold isNum; refine decide_eq_true ?_; unfold mag; omega
  unfold kcmp cmpN
  rw [h1, h2, h3, key_low (mag_lt a), key_low (by omega)]
  simp only [Bool.and_self, if_true]
  congr 1
  by_cases c1 : mag a < k
  · rw [if_pos c1, if_pos (by omega)]
  · rw [if_neg c1, if_neg (by omega)]
    by_cases c2 : k < mag a
    · rw [if_pos c2, if_pos (by omega)]
    · rw [if_neg c2, if_neg (by omega)]
theorem absB_le {a : Nat} : (absB a : Int) ≤ 18446744073709551615 := by
  have := mag_lt a
  unfold absB
  split <;> omega
theorem cmp_nan : kcmp (absB 9221120237041090560) 4886405595696988160 = (0, false) := by decide
theorem mag_inf {a : Nat} (hc : cls a = 2) : mag a = 9218868437227405312 := by
  have h := cls_mag a
  rw [hc] at h
  split at h
  · omega
  · split at h
    · assumption
    · split at h <;> omega
set_option maxRecDepth 100000 in
set_option maxHeartbeats 8000000 in
theorem toInt_no {a b f : Nat} {mode o : Int} {t : Bool} {w : World} (hW : ∀ u : World, Calls Tryd.prog 13 #[.int .u64 (a : Int), .int .i64 mode] u fun e W' => e = .returned (.tuple #[.int .u64 (b : Int), .int .i64 (f : Int)]) ∧ Below u.heap.size u W') (hb : (b : Int) ≤ 18446744073709551615)
    (hk : kcmp (absB b) 4886405595696988160 = (o, t)) (h : t = false ∨ t = true ∧ o = 1) :
    Calls Tryd.prog 8 #[.int .u64 (a : Int), .int .i64 mode] w fun e W' => e = .returned (.tuple #[.int .i64 0, .int .i64 1]) ∧ Below w.heap.size w W' := by
  have hab := fun u => fcmp_abs (w := u) hb
  have hcm := fun u => fcmp_cmp (a := absB b) (b := 4886405595696988160) (w := u) absB_le (by decide)
  rw [hk] at hcm
  replace hcm : ∀ u, Calls Tryd.prog 14 #[.int .u64 (absB b : Int), .int .u64 4886405595696988160] u fun e W' => e = .returned (.tuple #[.int .i64 o, .bool t]) ∧ Below u.heap.size u W' := hcm
  have habs := absB_le (a := b)
  clear hk
  generalize absB b = m at *
  rcases h with rfl | ⟨rfl, rfl⟩
  all_goals
    go_enter Tryd.func8, Tryd.ntmps8
    go_wp2_with fail
    refine (hW _).mono ?_
    rintro e w1 ⟨rfl, b1⟩
    clear hW
    go_wp2_with fail
    refine (hab _).mono ?_
    rintro e w2 ⟨rfl, b2⟩
    replace b1 := below_both b1 b2
    clear hab b2
    go_wp2_with fail
    refine (hcm _).mono ?_
    rintro e w3 ⟨rfl, b2⟩
    replace b1 := below_both b1 b2
    clear hcm b2
    go_wp2
    go_ret2
    exact ⟨rfl, b1⟩
set_option maxRecDepth 100000 in
set_option maxHeartbeats 8000000 in
theorem toInt_yes {a b f q m : Nat} {mode o x n : Int} {s : Bool} {w : World} (hW : ∀ u : World, Calls Tryd.prog 13 #[.int .u64 (a : Int), .int .i64 mode] u fun e W' => e = .returned (.tuple #[.int .u64 (b : Int), .int .i64 (f : Int)]) ∧ Below u.heap.size u W') (hb : (b : Int) ≤ 18446744073709551615)
    (hk : kcmp (absB b) 4886405595696988160 = (o, true)) (ho : o ≤ 0) (ho2 : -1 ≤ o)
    (hS : ∀ u : World, Calls Tryd.prog 9 #[.int .u64 (b : Int)] u fun e W' => e = .returned (.tuple #[.bool s, .int .u64 (m : Int), .int .i64 x, .int .i64 0]) ∧ u = W')
    (hm : m < 9007199254740992) (hq : q ≤ 4611686018427387904) (hn : n = sv s q) (hx : (∃ p : Nat, p ≤ 63 ∧ x = p ∧ m * 2 ^ p = q) ∨ (∃ p : Nat, 1 ≤ p ∧ p ≤ 2000 ∧ x = -(p : Int) ∧ m / 2 ^ p = q)) :
    Calls Tryd.prog 8 #[.int .u64 (a : Int), .int .i64 mode] w fun e W' => e = .returned (.tuple #[.int .i64 n, .int .i64 (f : Int)]) ∧ Below w.heap.size w W' := by
  have hab := fun u => fcmp_abs (w := u) hb
  have hcm := fun u => fcmp_cmp (a := absB b) (b := 4886405595696988160) (w := u) absB_le (by decide)
  rw [hk] at hcm
  replace hcm : ∀ u, Calls Tryd.prog 14 #[.int .u64 (absB b : Int), .int .u64 4886405595696988160] u fun e W' => e = .returned (.tuple #[.int .i64 o, .bool true]) ∧ Below u.heap.size u W' := hcm
  have habs := absB_le (a := b)
  clear hk
  generalize absB b = c at *
  have d0 : decide (0 < o) = false := decide_eq_false (by omega)
  have d1 : decide (o > 0) = false := decide_eq_false (by omega)
  have hqi : (q : Int) ≤ 4611686018427387904 := by omega
  have hmi : (m : Int) ≤ 9007199254740991 := by omega
  rcases hx with ⟨p, hp, rfl, hmp⟩ | ⟨p, hp1, hp2, rfl, hmp⟩
  · have v1 : max (p : Int) 0 = (p : Int) := by omega
    have v2 : max (-(p : Int)) 0 = 0 := by omega
    have sh := shl_any m p
    rw [hmp, Nat.mod_eq_of_lt (by omega)] at sh
    have hpi : (p : Int) ≤ 63 := by omega
    clear hmp hm hq ho
    cases s
    all_goals
      simp only [sv, if_true, Bool.false_eq_true, if_false] at hn
      subst hn
      go_enter Tryd.func8, Tryd.ntmps8
      go_wp2_with fail
      refine (hW _).mono ?_
      rintro e w1 ⟨rfl, b1⟩
      clear hW
      go_wp2_with fail
      refine (hab _).mono ?_
      rintro e w2 ⟨rfl, b2⟩
      replace b1 := below_both b1 b2
      clear hab b2
      go_wp2_with fail
      refine (hcm _).mono ?_
      rintro e w3 ⟨rfl, b2⟩
      replace b1 := below_both b1 b2
      clear hcm b2
      go_wp2_with fail
      refine (hS _).mono ?_
      rintro e w4 ⟨rfl, rfl⟩
      clear hS
      go_wp2
      go_ret2
      exact ⟨rfl, b1⟩
  · have v1 : max (-(p : Int)) 0 = 0 := by omega
    have v2 : max (p : Int) 0 = (p : Int) := by omega
    have sh := shr_any (x := m) (by omega) p
    rw [hmp] at sh
    have hpi : (p : Int) ≤ 2000 := by omega
    have hpj : 1 ≤ (p : Int) := by omega
    clear hmp hm hq ho hp1 hp2
    cases s
    all_goals
      simp only [sv, if_true, Bool.false_eq_true, if_false] at hn
      subst hn
      go_enter Tryd.func8, Tryd.ntmps8
      go_wp2_with fail
      refine (hW _).mono ?_
      rintro e w1 ⟨rfl, b1⟩
      clear hW
      go_wp2_with fail
      refine (hab _).mono ?_
      rintro e w2 ⟨rfl, b2⟩
      replace b1 := below_both b1 b2
      clear hab b2
      go_wp2_with fail
      refine (hcm _).mono ?_
      rintro e w3 ⟨rfl, b2⟩
      replace b1 := below_both b1 b2
      clear hcm b2
      go_wp2_with fail
      refine (hS _).mono ?_
      rintro e w4 ⟨rfl, rfl⟩
      clear hS
      go_wp2
      go_ret2
      exact ⟨rfl, b1⟩
theorem fconv_toInt {a : Nat} {mode : Int} {w : World} (ha : (a : Int) ≤ 18446744073709551615) :
    Calls Tryd.prog 8 #[.int .u64 (a : Int), .int .i64 mode] w fun e W' => e = .returned (.tuple #[.int .i64 (toIntB a mode).1, .int .i64 ((toIntB a mode).2 : Int)]) ∧ Below w.heap.size w W' := by
  have hW := fun u => fconv_whole (mode := mode) (w := u) ha
  have ca3 := cls_le a
  have ca4 : cls a ≤ 1 ∨ cls a = 2 ∨ cls a = 3 := by omega
  rcases ca4 with hc | hc | hc
  · have hwB : wholeB a mode = (wbits (neg6 a) (wqA a mode), wflag a) := by unfold wholeB; rw [if_neg (by omega), if_neg (by omega)]
    rw [hwB] at hW
    dsimp only at hW
    obtain ⟨k1, k2, k3, k4, k5⟩ := wbits_is (a := a) (mode := mode) (by omega) hc
    obtain ⟨b, hb⟩ : ∃ b, b = wbits (neg6 a) (wqA a mode) := ⟨_, rfl⟩
    obtain ⟨q, hq⟩ : ∃ q, q = wqA a mode := ⟨_, rfl⟩
    rw [← hq] at hb
    rw [← hq, ← hb] at k1 k2 k3 k4 k5 hW
    have fb : fe b ≠ 2047 := by
      intro h
      unfold xpo at k4
      rw [h] at k4
      revert k4
      decide
    have hcb := cls_fin.2 fb
    have hcm := cmp_low (a := b) (k := 4886405595696988160) (by omega) (by decide)
    rw [mag_62 k5] at hcm
    by_cases hg : 4611686018427387904 < q
    · have e : toIntB a mode = (0, 1) := by unfold toIntB; rw [if_neg (by omega), if_pos (by rw [← hq]; exact hg)]
      rw [e]
      rw [cmpN_gt hg] at hcm
      exact toInt_no hW (by omega) hcm (.inr ⟨rfl, rfl⟩)
    · have e : toIntB a mode = (sv (neg6 a) q, wflag a) := by unfold toIntB; rw [if_neg (by omega), ← hq, if_neg hg]
      rw [e]
      have hS := fun u => psplit_fin1 (a := b) (w := u) (by omega) fb
      have hsl : sig b < 9007199254740992 := by
        have := ff_lt b
        unfold sig; split <;> omega
      rw [k1] at hS
      have ho : -1 ≤ cmpN q 4611686018427387904 ∧ cmpN q 4611686018427387904 ≤ 0 := by
        unfold cmpN
        split
        · omega
        · first | omega | (split <;> omega)
      refine toInt_yes hW (by omega) hcm ho.2 ho.1 hS hsl (by omega) rfl ?_
      by_cases hx : 0 ≤ xpo b
      · rw [show (xpo b - min (xpo b) 0).toNat = (xpo b).toNat by omega, show (-min (xpo b) 0).toNat = 0 by omega, Nat.pow_zero, Nat.mul_one] at k5
        refine .inl ⟨(xpo b).toNat, ?_, by omega, k5⟩
        refine Nat.not_lt.1 fun hc2 => ?_
        have hs0 : sig b ≠ 0 := by
          intro h
          have := (sig_zero k2 h).2
          omega
        have h1 : 2 ^ 64 ≤ 2 ^ (xpo b).toNat := Nat.pow_le_pow_right (by decide) (by omega)
        have h2 := Nat.le_mul_of_pos_left (2 ^ (xpo b).toNat) (Nat.pos_of_ne_zero hs0)
        rw [k5] at h2
        have h3 : (2 : Nat) ^ 64 = 18446744073709551616 := rfl
        omega
      · rw [show (xpo b - min (xpo b) 0).toNat = 0 by omega, show (-min (xpo b) 0).toNat = (-xpo b).toNat by omega, Nat.pow_zero, Nat.mul_one] at k5
        refine .inr ⟨(-xpo b).toNat, by omega, by omega, by omega, ?_⟩
        rw [k5]
        exact Nat.mul_div_cancel _ (Nat.two_pow_pos _)
  · have e : toIntB a mode = (0, 1) := by unfold toIntB; rw [if_pos (by omega)]
    rw [e]
    rw [whole_inf hc] at hW
    have hcm := cmp_low (a := a) (k := 4886405595696988160) (by omega) (by decide)
    rw [mag_inf hc] at hcm
    exact toInt_no hW ha hcm (.inr ⟨rfl, by decide⟩)
  · have e : toIntB a mode = (0, 1) := by unfold toIntB; rw [if_pos (by omega)]
    rw [e]
    rw [whole_nan hc] at hW
    exact toInt_no (b := 9221120237041090560) hW (by decide) cmp_nan (.inl rfl)
end Go.Proofs.YtgobclmihppopabDoor

/- A number of many words, by its two highest: plain numbers. No program is named here. -/
namespace Go.Proofs.YtgobclmihppopabDoor

theorem words_pow (k : Nat) : (18446744073709551616 : Nat) ^ k = 2 ^ (64 * k) := by
  rw [Nat.pow_mul]
theorem top_two {xs : List Nat} {M k : Nat} (hl : Low 18446744073709551616 xs) (hM : val 18446744073709551616 xs = M) (h1 : 18446744073709551616 ^ (k + 1) ≤ M) (h2 : M < 18446744073709551616 ^ (k + 2)) :
    k + 2 ≤ xs.length ∧ M = (lim xs (k + 1) * 18446744073709551616 + lim xs k) * 18446744073709551616 ^ k + val 18446744073709551616 (xs.take k) ∧ val 18446744073709551616 (xs.take k) < 18446744073709551616 ^ k ∧ lim xs (k + 1) ≠ 0 := by
  have hlen : k + 2 ≤ xs.length := by
    refine Nat.not_lt.1 fun hc => ?_
    have a1 := val_lt hl (by decide : 0 < 18446744073709551616)
    rw [hM] at a1
    have a2 : 18446744073709551616 ^ xs.length ≤ 18446744073709551616 ^ (k + 1) := Nat.pow_le_pow_right (by decide) (by omega)
    omega
  have hs := val_split (B := 18446744073709551616) hlen
  have hp : 0 < 18446744073709551616 ^ (k + 2) := Nat.pow_pos (by decide)
  have hd : val 18446744073709551616 (xs.drop (k + 2)) = 0 := by
    refine Nat.eq_zero_of_not_pos fun hc => ?_
    have := Nat.le_mul_of_pos_right (18446744073709551616 ^ (k + 2)) hc
    omega
  rw [hd, Nat.mul_zero, Nat.add_zero, hM] at hs
  have e0 : part 18446744073709551616 xs (k + 2) = part 18446744073709551616 xs k + 18446744073709551616 ^ k * lim xs k + 18446744073709551616 ^ (k + 1) * lim xs (k + 1) := rfl
  have e1 := part_eq_val_take 18446744073709551616 xs k (by omega)
  have e2 := part_lt hl (by decide : 0 < 18446744073709551616) k
  have e3 := part_lt hl (by decide : 0 < 18446744073709551616) (k + 1)
  have e4 : part 18446744073709551616 xs (k + 1) = part 18446744073709551616 xs k + 18446744073709551616 ^ k * lim xs k := rfl
  rw [e0] at hs
  rw [← e1]
  refine ⟨hlen, ?_, e2, ?_⟩
  · rw [hs, Nat.pow_succ, Nat.add_mul]
    generalize 18446744073709551616 ^ k = P at *
    generalize part 18446744073709551616 xs k = R at *
    generalize lim xs k = x at *
    generalize lim xs (k + 1) = y at *
    rw [Nat.mul_comm x P, Nat.mul_assoc P, Nat.mul_comm (y * 18446744073709551616) P, Nat.mul_comm 18446744073709551616 y]
    omega
  · intro h0
    rw [h0, Nat.mul_zero, Nat.add_zero, ← e4] at hs
    omega
theorem top_one {xs : List Nat} {M : Nat} (hl : Low 18446744073709551616 xs) (hM : val 18446744073709551616 xs = M) (h0 : M ≠ 0) (h2 : M < 18446744073709551616) : 1 ≤ xs.length ∧ lim xs 0 = M := by
  have hlen : 1 ≤ xs.length := by
    refine Nat.not_lt.1 fun hc => h0 ?_
    obtain rfl : xs = [] := List.eq_nil_of_length_eq_zero (by omega)
    rw [← hM]; rfl
  have hs := val_split (B := 18446744073709551616) hlen
  have hd : val 18446744073709551616 (xs.drop 1) = 0 := by
    refine Nat.eq_zero_of_not_pos fun hc => ?_
    rw [Nat.pow_one] at hs
    have := Nat.le_mul_of_pos_right 18446744073709551616 hc
    omega
  rw [hd, Nat.mul_zero, Nat.add_zero, hM] at hs
  refine ⟨hlen, ?_⟩
  rw [hs]
  show _ = 0 + 18446744073709551616 ^ 0 * lim xs 0
  rw [Nat.pow_zero, Nat.one_mul, Nat.zero_add]
/-- how many words it takes -/
theorem used_two {M k : Nat} (h : (nbits M + 63) / 64 = k + 2) : 18446744073709551616 ^ (k + 1) ≤ M ∧ M < 18446744073709551616 ^ (k + 2) := by
  have h0 : M ≠ 0 := by
    intro h0
    rw [h0, nbits_zero] at h
    omega
  obtain ⟨b1, b2, b3⟩ := nbits_bounds h0
  rw [words_pow, words_pow]
  exact ⟨Nat.le_trans (Nat.pow_le_pow_right (by decide) (by omega)) b2, Nat.lt_of_lt_of_le b3 (Nat.pow_le_pow_right (by decide) (by omega))⟩
theorem used_one {M : Nat} (h : (nbits M + 63) / 64 = 1) : M ≠ 0 ∧ M < 18446744073709551616 := by
  have h0 : M ≠ 0 := by
    intro h0
    rw [h0, nbits_zero] at h
    omega
  obtain ⟨b1, b2, b3⟩ := nbits_bounds h0
  refine ⟨h0, Nat.lt_of_lt_of_le b3 (Nat.le_trans (Nat.pow_le_pow_right (by decide) (show nbits M ≤ 64 by omega)) (by decide))⟩
theorem used_none {M : Nat} (h : (nbits M + 63) / 64 = 0) : M = 0 := by
  refine Nat.eq_zero_of_not_pos fun h0 => ?_
  have := (nbits_bounds (Nat.ne_of_gt h0)).1
  omega
theorem nbits_one : nbits 1 = 1 := rfl
theorem rnd_far1 {neg : Bool} {N : Nat} {E mode : Int} (hN : 0 < N) (h : 1026 ≤ (nbits N : Int) + E) : rnd neg N 1 E mode = rbig neg mode :=
  rnd_far hN (by decide) (by unfold rlen; rw [nbits_one]; omega)
theorem big_65 : 18446744073709551616 = (2 : Nat) ^ 64 := rfl
/-- two words and whether there is more, rounded, as all words are -/
theorem wide_is {neg : Bool} {hi lo k r : Nat} {x mode : Int} (h2 : hi ≠ 0) (hr : r < 2 ^ (64 * k)) (x1 : -16384 ≤ x) (x2 : x ≤ 16384) :
    prnd neg hi lo (x + 64 * (k : Int)) (decide (0 < r)) mode = rnd neg ((hi * 18446744073709551616 + lo) * 2 ^ (64 * k) + r) 1 x mode := by
  obtain ⟨N, hN⟩ : ∃ N, N = hi * 18446744073709551616 + lo := ⟨_, rfl⟩
  have hN1 : 18446744073709551616 ≤ N := by
    have := Nat.le_mul_of_pos_left 18446744073709551616 (Nat.pos_of_ne_zero h2)
    omega
  have hb : 65 ≤ nbits N := nbits_ge (N := N) (k := 64) (by rw [← big_65]; exact hN1)
  have hx := rx_ge N (x + 64 * (k : Int))
  have e1 : rnd neg (N * 2 ^ (64 * k) + r) 1 x mode = if 0 < r then rnd neg (2 * N + 1) 1 (x + 64 * (k : Int) - 1) mode else rnd neg N 1 (x + 64 * (k : Int)) mode := by
    by_cases h0 : 0 < r
    · have h := rnd_stick (neg := neg) (N := N) (j := 64 * k) (r := r) (exp := x + 64 * (k : Int)) (mode := mode) (by omega) h0 hr (by omega)
      rw [if_pos h0, ← h, show x + 64 * (k : Int) - ((64 * k : Nat) : Int) = x by omega]
    · obtain rfl : r = 0 := by omega
      rw [if_neg (by omega), Nat.add_zero, rnd_scale (by omega) (by decide), show x + ((64 * k : Nat) : Int) = x + 64 * (k : Int) by omega]
  have hN54 : 18014398509481984 ≤ hi * 18446744073709551616 + lo := by omega
  by_cases hc : x + 64 * (k : Int) ≤ 16384
  · by_cases h0 : 0 < r
    · rw [decide_eq_true h0, prnd_more hN54 (by omega) hc, ← hN, e1, if_pos h0]
    · rw [decide_eq_false h0, prnd_plain (by omega) (by omega) hc, ← hN, e1, if_neg h0]
  · have hcl : clampE (x + 64 * (k : Int)) = 16384 := by unfold clampE; omega
    have hm := nbits_more N (by omega)
    have f1 : rnd neg (N * 2 ^ (64 * k) + r) 1 x mode = rbig neg mode := by
      rw [e1]
      split
      · exact rnd_far1 (by omega) (by omega)
      · exact rnd_far1 (by omega) (by omega)
    rw [← hN, f1]
    unfold prnd
    rw [← hN, hcl, if_neg (by omega)]
    split
    · exact rnd_far1 (by omega) (by omega)
    · exact rnd_far1 (by omega) (by omega)
end Go.Proofs.YtgobclmihppopabDoor

/- parts.Wide: what it keeps. -/
namespace Go.Proofs.YtgobclmihppopabDoor
open Go.RowKit Go.Shelf

theorem arr_new (w : World) (c : Array Value) (t : TypeId) (W : World) (h : W = w.alloc (.cells c t)) : Below w.heap.size w W ∧ W.heap[w.heap.size]? = some (.cells c t (0, 0)) := by
  subst h
  exact ⟨(Below.refl w.heap.size w).alloc (Nat.le_refl _) _, World.alloc_heap_new w _⟩
set_option maxRecDepth 100000 in
set_option maxHeartbeats 4000000 in
theorem wide_two {s : Bool} {b off m cap M B k : Nat} {xs : List Nat} {x mode : Int} {w : World} (hb : b < w.heap.size) (hR : RdAt b w (.slice (some ⟨b, off, none⟩) m cap) xs) (hl : Low 18446744073709551616 xs) (hM : val 18446744073709551616 xs = M) (hm : xs.length = m) (h1 : m ≤ 1024) (x1 : -16384 ≤ x) (x2 : x ≤ 16384) (hB : nbits M = B) (hu : (B + 63) / 64 = k + 2) (hcap : m ≤ cap) :
    Calls Tryd.prog 12 #[.bool s, .slice (some ⟨b, off, none⟩) m cap, .int .i64 x, .int .i64 mode] w fun e W' => e = .returned (.tuple #[.int .u64 ((rnd s M 1 x mode).1 : Int), .int .i64 ((rnd s M 1 x mode).2 : Int), .int .i64 0]) ∧ Below w.heap.size w W' := by
  obtain ⟨u1, u2⟩ := used_two (M := M) (k := k) (by rw [hB]; exact hu)
  obtain ⟨t1, t2, t3, t4⟩ := top_two hl hM u1 u2
  have hb1 : ∀ u, Below w.heap.size w u → Calls Tryd.prog 20 #[.slice (some ⟨b, off, none⟩) m cap] u fun e W' => e = .returned (.int .i64 (B : Int)) ∧ Below u.heap.size u W' := by
    intro u hw
    subst hB
    exact bits_num ⟨xs, ⟨b, Nat.lt_of_lt_of_le hb hw.size, hR.kept (hw.block b hb)⟩, hl, hM, Nat.le_refl _⟩ (by omega)
  obtain ⟨r, hr⟩ : ∃ r, r = val 18446744073709551616 (xs.take k) := ⟨_, rfl⟩
  have hb2 : ∀ u, Below w.heap.size w u → Calls Tryd.prog 20 #[.slice (some ⟨b, off, none⟩) k cap] u fun e W' => e = .returned (.int .i64 (nbits r : Int)) ∧ Below u.heap.size u W' := by
    intro u hu
    subst hr
    have hR2 : RdAt b w (.slice (some ⟨b, off, none⟩) xs.length cap) xs := by rw [hm]; exact hR
    exact bits_num ⟨xs.take k, ⟨b, Nat.lt_of_lt_of_le hb hu.size, (hR2.take (by omega)).kept (hu.block b hb)⟩, fun y hy => hl y (List.mem_of_mem_take hy), rfl, Nat.le_refl _⟩ (by rw [List.length_take]; omega)
  have ha := hR.cell (j := k) (by omega)
  have hc := hR.cell (j := k + 1) (by omega)
  have hy := lim_lt hl (by decide : 0 < 18446744073709551616) k
  have hz := lim_lt hl (by decide : 0 < 18446744073709551616) (k + 1)
  rw [← hr] at t2 t3
  have hw := wide_is (neg := s) (hi := lim xs (k + 1)) (lo := lim xs k) (k := k) (r := r) (x := x) (mode := mode) t4 (by rw [← words_pow]; exact t3) x1 x2
  rw [← words_pow, ← t2] at hw
  have hrb : nbits r ≤ 64 * k := nbits_le (by rw [← words_pow]; exact t3)
  have t1' : k ≤ 1022 := by omega
  have hrd := fun u => pround (neg := s) (hi := lim xs (k + 1)) (lo := lim xs k) (exp := x + 64 * (k : Int)) (more := decide (0 < r)) (mode := mode) (w := u) (by omega) (by omega) (by omega) (by omega)
  rw [hw] at hrd
  have hmore : decide (0 < nbits r) = decide (0 < r) := by
    refine decide_eq_decide.2 ⟨fun h => ?_, fun h => ?_⟩
    · refine Nat.pos_of_ne_zero fun h0 => ?_
      rw [h0, nbits_zero] at h
      omega
    · have := (nbits_bounds (Nat.ne_of_gt h)).1
      omega
  have HW := Lib.hid hmore
  generalize nbits r = br at *
  generalize rnd s M 1 x mode = P at *
  generalize lim xs k = y at *
  generalize lim xs (k + 1) = z at *
  generalize decide (0 < r) = more at *
  clear t2 t3 t4 u1 u2 hw hR hl hM hB hr hmore
  have hyi : (y : Int) ≤ 18446744073709551615 := by omega
  have hzi : (z : Int) ≤ 18446744073709551615 := by omega
  have q2 : ((B : Int) + 63) / 64 = (k : Int) + 2 := by omega
  have q3 : B ≤ 65536 := by omega
  have q4 : k + 2 ≤ m := by omega
  have d1 : decide ((m : Int) > 1024) = false := decide_eq_false (by omega)
  have d2 : decide (x < -32768) = false := decide_eq_false (by omega)
  have d3 : decide (x > 32768) = false := decide_eq_false (by omega)
  have d4 : decide ((1024 : Int) < (m : Int)) = false := decide_eq_false (by omega)
  have d5 : decide ((32768 : Int) < x) = false := decide_eq_false (by omega)
  clear hu hy hz hm t1
  go_enter Tryd.func12, Tryd.ntmps12
  go_wp2_with fail
  refine (hb1 _ (Below.refl _ _)).mono ?_
  rintro e w1 ⟨rfl, b1⟩
  clear hb1
  go_upto_region 6 with (fail)
  have hbx := arr_new w1 #[.int .u64 0, .int .u64 0] 51 _ rfl
  obtain ⟨hB0, G⟩ := hbx
  replace hB0 := below_both b1 hB0
  generalize (w1.alloc (.cells #[.int .u64 0, .int .u64 0] 51)) = W0 at hB0 G ⊢
  have ka := (hB0.cell (p := ⟨b, off + k, none⟩) hb).trans ha
  have kc := (hB0.cell (p := ⟨b, off + (k + 1), none⟩) hb).trans hc
  have g0 := cell_of_row W0 _ 0 _ _ (0, 0) G
  have g1 := cell_of_row W0 _ 1 _ _ (0, 0) G
  have f0 : W0.frozen? ⟨w1.heap.size, 0, none⟩ = false := by simp [World.frozen?, G]
  have f1 : W0.frozen? ⟨w1.heap.size, 1, none⟩ = false := by simp [World.frozen?, G]
  have e2 : k + 2 - k = 2 := by omega
  have v1 : (0 : Int) ≤ (k : Int) + 2 := by omega
  have v2 : (k : Int) + 2 ≤ (cap : Int) := by omega
  have v3 : ¬ cap = k := by omega
  have e3 : ((k : Int) + 2).toNat = k + 2 := by omega
  have kk : ∀ j v, [Value.int .u64 (y : Int), Value.int .u64 (z : Int)][j]? = some v → W0.drew.cell? (Addr.add ⟨b, off + k, none⟩ j) = some v := by
    intro j v hv
    match j, hv with
    | 0, hv => simp only [List.getElem?_cons_zero, Option.some.injEq] at hv; subst hv; exact ka
    | 1, hv => simp only [List.getElem?_cons_succ, List.getElem?_cons_zero, Option.some.injEq] at hv; subst hv; exact kc
    | (n + 2), hv => simp at hv
  have hKK := Lib.hid kk
  have hGd : W0.drew.heap[w1.heap.size]? = some (.cells [Value.int .u64 0, Value.int .u64 0].toArray 51 (0, 0)) := G
  have hGG := Lib.hid hGd
  have hBd := Lib.hid hB0.drew
  have hle := Lib.hid b1.size
  clear kk hGd
  go_region_law (refine step_copy_splice rfl (.tmp 35) (.tmp 39) 24 24 rfl 22 (by kernel_rfl) (by kernel_rfl) (some ⟨w1.heap.size, 0, none⟩) (some ⟨b, off + k, none⟩) 2 2 2 (cap - k) (by simp [Act.eval, Act.put]) (by simp [Act.eval, Act.put, e2]) w1.heap.size 0 [.int .u64 0, .int .u64 0] 51 hGG.out [.int .u64 (y : Int), .int .u64 (z : Int)] rfl (fun _ => ⟨rfl, _, rfl, hKK.out⟩) (Nat.le_refl 2) (by intro v hv; simp only [List.mem_cons, List.not_mem_nil, or_false] at hv; rcases hv with rfl | rfl <;> rfl) w.heap.size w hBd.out hle.out ?_; intro w4 hg4 hb4)
  all_goals
    have G4 : w4.heap[w1.heap.size]? = some (.cells #[.int .u64 (y : Int), .int .u64 (z : Int)] 51 (0, 0)) := hg4.out
    clear hg4 ka kc g0 g1 f0 f1 G ha hc hKK hGG hBd hB0
    have hbx := fun u (h : Below w4.heap.size w4 u) => (h.block _ (Array.getElem?_eq_some_iff.1 G4).1).trans G4
    have l1 : (0 : Int) ≤ (k : Int) := by omega
    have l2 : (k : Int) ≤ (cap : Int) := by omega
    have l3 : k ≤ cap := by omega
    have q5 : br ≤ 65536 := by omega
    go_wp2_with fail
    refine (hb2 _ hb4).mono ?_
    rintro e w5 ⟨rfl, b5⟩
    have G5 := hbx _ b5
    replace hb4 := below_both hb4 b5
    have k0 := cell_of_row w5 _ 0 _ _ (0, 0) G5
    have k1 := cell_of_row w5 _ 1 _ _ (0, 0) G5
    simp only [List.getElem?_toArray, List.getElem?_cons_zero, List.getElem?_cons_succ] at k0 k1
    clear hb2 hbx G4 b5
    go_wp2_with fail
    rw [HW.out]
    refine (hrd _).mono ?_
    rintro e w6 ⟨rfl, b6⟩
    go_wp2
    go_ret3
    exact ⟨rfl, below_both hb4 b6⟩
set_option maxRecDepth 100000 in
set_option maxHeartbeats 4000000 in
theorem wide_one {s : Bool} {b off m cap M B : Nat} {xs : List Nat} {x mode : Int} {w : World} (hb : b < w.heap.size) (hR : RdAt b w (.slice (some ⟨b, off, none⟩) m cap) xs) (hl : Low 18446744073709551616 xs) (hM : val 18446744073709551616 xs = M) (hm : xs.length = m) (h1 : m ≤ 1024) (x1 : -16384 ≤ x) (x2 : x ≤ 16384) (hB : nbits M = B) (hu : (B + 63) / 64 = 1) (hcap : m ≤ cap) :
    Calls Tryd.prog 12 #[.bool s, .slice (some ⟨b, off, none⟩) m cap, .int .i64 x, .int .i64 mode] w fun e W' => e = .returned (.tuple #[.int .u64 ((rnd s M 1 x mode).1 : Int), .int .i64 ((rnd s M 1 x mode).2 : Int), .int .i64 0]) ∧ Below w.heap.size w W' := by
  obtain ⟨u1, u2⟩ := used_one (M := M) (by rw [hB]; exact hu)
  obtain ⟨t1, t2⟩ := top_one hl hM u1 u2
  have hb1 : ∀ u, Below w.heap.size w u → Calls Tryd.prog 20 #[.slice (some ⟨b, off, none⟩) m cap] u fun e W' => e = .returned (.int .i64 (B : Int)) ∧ Below u.heap.size u W' := by
    intro u hw
    subst hB
    exact bits_num ⟨xs, ⟨b, Nat.lt_of_lt_of_le hb hw.size, hR.kept (hw.block b hb)⟩, hl, hM, Nat.le_refl _⟩ (by omega)
  have hb2 : ∀ u, Below w.heap.size w u → Calls Tryd.prog 20 #[.slice (some ⟨b, off, none⟩) 0 cap] u fun e W' => e = .returned (.int .i64 0) ∧ Below u.heap.size u W' := by
    intro u hw
    exact bits_num (M := 0) ⟨[], ⟨b, Nat.lt_of_lt_of_le hb hw.size, .inl ⟨⟨_, _, rfl⟩, rfl⟩⟩, fun y hy => (by cases hy), rfl, Nat.le_refl 0⟩ (by omega)
  have ha := hR.cell (j := 0) (by omega)
  rw [t2, Nat.add_zero] at ha
  have hw := prnd_plain (neg := s) (hi := 0) (lo := M) (exp := x) (mode := mode) (by omega) x1 x2
  rw [Nat.zero_mul, Nat.zero_add] at hw
  have hrd := fun u => pround (neg := s) (hi := 0) (lo := M) (exp := x) (more := false) (mode := mode) (w := u) (by omega) (by omega) (by omega) (by omega)
  rw [hw, show ((0 : Nat) : Int) = 0 from rfl] at hrd
  generalize rnd s M 1 x mode = P at *
  have hyi : (M : Int) ≤ 18446744073709551615 := by omega
  clear u1 t2 hw hR hl hM hB u2
  have q2 : ((B : Int) + 63) / 64 = 1 := by omega
  have q3 : B ≤ 65536 := by omega
  have q4 : 1 ≤ m := by omega
  have d1 : decide ((m : Int) > 1024) = false := decide_eq_false (by omega)
  have d2 : decide (x < -32768) = false := decide_eq_false (by omega)
  have d3 : decide (x > 32768) = false := decide_eq_false (by omega)
  have d4 : decide ((1024 : Int) < (m : Int)) = false := decide_eq_false (by omega)
  have d5 : decide ((32768 : Int) < x) = false := decide_eq_false (by omega)
  clear hu hm t1
  go_enter Tryd.func12, Tryd.ntmps12
  go_wp2_with fail
  refine (hb1 _ (Below.refl _ _)).mono ?_
  rintro e w1 ⟨rfl, b1⟩
  clear hb1
  go_upto_region 6 with (fail)
  have hbx := arr_new w1 #[.int .u64 0, .int .u64 0] 51 _ rfl
  obtain ⟨hB0, G⟩ := hbx
  replace hB0 := below_both b1 hB0
  generalize (w1.alloc (.cells #[.int .u64 0, .int .u64 0] 51)) = W0 at hB0 G ⊢
  have ka := (hB0.cell (p := ⟨b, off, none⟩) hb).trans ha
  have v2 : (1 : Int) ≤ (cap : Int) := by omega
  have v4 : max (-1 : Int) 0 = 0 := rfl
  have kk : ∀ j v, [Value.int .u64 (M : Int)][j]? = some v → W0.drew.cell? (Addr.add ⟨b, off, none⟩ j) = some v := by
    intro j v hv
    match j, hv with
    | 0, hv => simp only [List.getElem?_cons_zero, Option.some.injEq] at hv; subst hv; exact ka
    | (n + 1), hv => simp at hv
  have hKK := Lib.hid kk
  have hGd : W0.drew.heap[w1.heap.size]? = some (.cells [Value.int .u64 0, Value.int .u64 0].toArray 51 (0, 0)) := G
  have hGG := Lib.hid hGd
  have hBd := Lib.hid hB0.drew
  have hle := Lib.hid b1.size
  clear kk hGd
  go_region_law (refine step_copy_splice rfl (.tmp 35) (.tmp 39) 24 24 rfl 22 (by kernel_rfl) (by kernel_rfl) (some ⟨w1.heap.size, 0, none⟩) (some ⟨b, off, none⟩) 2 2 1 cap (by simp [Act.eval, Act.put]) (by simp [Act.eval, Act.put]) w1.heap.size 0 [.int .u64 0, .int .u64 0] 51 hGG.out [.int .u64 (M : Int)] rfl (fun _ => ⟨rfl, _, rfl, hKK.out⟩) (Nat.le_succ 1) (by intro v hv; simp only [List.mem_cons, List.not_mem_nil, or_false] at hv; rcases hv with rfl; rfl) w.heap.size w hBd.out hle.out ?_; intro w4 hg4 hb4)
  all_goals
    have G4 : w4.heap[w1.heap.size]? = some (.cells #[.int .u64 (M : Int), .int .u64 0] 51 (0, 0)) := hg4.out
    clear hg4 ka G ha hKK hGG hBd hB0
    have hbx := fun u (h : Below w4.heap.size w4 u) => (h.block _ (Array.getElem?_eq_some_iff.1 G4).1).trans G4
    go_wp2_with fail
    refine (hb2 _ hb4).mono ?_
    rintro e w5 ⟨rfl, b5⟩
    have G5 := hbx _ b5
    replace hb4 := below_both hb4 b5
    have k0 := cell_of_row w5 _ 0 _ _ (0, 0) G5
    have k1 := cell_of_row w5 _ 1 _ _ (0, 0) G5
    simp only [List.getElem?_toArray, List.getElem?_cons_zero, List.getElem?_cons_succ] at k0 k1
    clear hb2 hbx G4 b5
    go_wp2_with fail
    refine (hrd _).mono ?_
    rintro e w6 ⟨rfl, b6⟩
    go_wp2
    go_ret3
    exact ⟨rfl, below_both hb4 b6⟩
set_option maxRecDepth 100000 in
set_option maxHeartbeats 4000000 in
theorem wide_none {s : Bool} {b m cap : Nat} {a : Option Addr} {xs : List Nat} {x mode : Int} {w : World} (hb : b < w.heap.size) (hR : RdAt b w (.slice a m cap) xs) (hl : Low 18446744073709551616 xs) (hM : val 18446744073709551616 xs = 0) (hm : xs.length = m) (h1 : m ≤ 1024) (x1 : -16384 ≤ x) (x2 : x ≤ 16384) (hcap : m ≤ cap) :
    Calls Tryd.prog 12 #[.bool s, .slice a m cap, .int .i64 x, .int .i64 mode] w fun e W' => e = .returned (.tuple #[.int .u64 (sgn s : Int), .int .i64 0, .int .i64 0]) ∧ Below w.heap.size w W' := by
  have hb1 : ∀ u, Below w.heap.size w u → Calls Tryd.prog 20 #[.slice a m cap] u fun e W' => e = .returned (.int .i64 0) ∧ Below u.heap.size u W' := by
    intro u hw
    exact bits_num (M := 0) ⟨xs, ⟨b, Nat.lt_of_lt_of_le hb hw.size, hR.kept (hw.block b hb)⟩, hl, hM, Nat.le_refl _⟩ (by omega)
  have hb2 : ∀ u, Below w.heap.size w u → Calls Tryd.prog 20 #[.slice a 0 cap] u fun e W' => e = .returned (.int .i64 0) ∧ Below u.heap.size u W' := by
    intro u hw
    exact bits_num (M := 0) ⟨[], ⟨b, Nat.lt_of_lt_of_le hb hw.size, .inl ⟨⟨_, _, rfl⟩, rfl⟩⟩, fun y hy => (by cases hy), rfl, Nat.le_refl 0⟩ (by omega)
  have hrd := fun u => pround (neg := s) (hi := 0) (lo := 0) (exp := x) (more := false) (mode := mode) (w := u) (by decide) (by decide) (by omega) (by omega)
  have hw : prnd s 0 0 x false mode = (sgn s, 0) := by unfold prnd; rw [Nat.zero_mul, if_pos rfl]
  rw [hw, show ((0 : Nat) : Int) = 0 from rfl] at hrd
  dsimp only at hrd
  clear hw hR hl hM hm
  have v4 : max (-2 : Int) 0 = 0 := rfl
  have v5 : a.map (fun x => x.add 0) = a := by cases a <;> rfl
  have d1 : decide ((m : Int) > 1024) = false := decide_eq_false (by omega)
  have d2 : decide (x < -32768) = false := decide_eq_false (by omega)
  have d3 : decide (x > 32768) = false := decide_eq_false (by omega)
  have d4 : decide ((1024 : Int) < (m : Int)) = false := decide_eq_false (by omega)
  have d5 : decide ((32768 : Int) < x) = false := decide_eq_false (by omega)
  go_enter Tryd.func12, Tryd.ntmps12
  go_wp2_with fail
  refine (hb1 _ (Below.refl _ _)).mono ?_
  rintro e w1 ⟨rfl, b1⟩
  clear hb1
  go_upto_region 6 with (fail)
  have hbx := arr_new w1 #[.int .u64 0, .int .u64 0] 51 _ rfl
  obtain ⟨hB0, G⟩ := hbx
  replace hB0 := below_both b1 hB0
  generalize (w1.alloc (.cells #[.int .u64 0, .int .u64 0] 51)) = W0 at hB0 G ⊢
  have hGd : W0.drew.heap[w1.heap.size]? = some (.cells [Value.int .u64 0, Value.int .u64 0].toArray 51 (0, 0)) := G
  have hGG := Lib.hid hGd
  have hBd := Lib.hid hB0.drew
  have hle := Lib.hid b1.size
  clear hGd
  go_region_law (refine step_copy_splice rfl (.tmp 35) (.tmp 39) 24 24 rfl 22 (by kernel_rfl) (by kernel_rfl) (some ⟨w1.heap.size, 0, none⟩) a 2 2 0 cap (by simp [Act.eval, Act.put]) (by simp [Act.eval, Act.put]) w1.heap.size 0 [.int .u64 0, .int .u64 0] 51 hGG.out [] rfl (fun h => absurd h (Nat.lt_irrefl 0)) (Nat.zero_le 2) (by intro v hv; cases hv) w.heap.size w hBd.out hle.out ?_; intro w4 hg4 hb4)
  all_goals
    have G4 : w4.heap[w1.heap.size]? = some (.cells #[.int .u64 0, .int .u64 0] 51 (0, 0)) := hg4.out
    clear hg4 G hGG hBd hB0
    have hbx := fun u (h : Below w4.heap.size w4 u) => (h.block _ (Array.getElem?_eq_some_iff.1 G4).1).trans G4
    go_wp2_with fail
    refine (hb2 _ hb4).mono ?_
    rintro e w5 ⟨rfl, b5⟩
    have G5 := hbx _ b5
    replace hb4 := below_both hb4 b5
    have k0 := cell_of_row w5 _ 0 _ _ (0, 0) G5
    have k1 := cell_of_row w5 _ 1 _ _ (0, 0) G5
    simp only [List.getElem?_toArray, List.getElem?_cons_zero, List.getElem?_cons_succ] at k0 k1
    clear hb2 hbx G4 b5
    go_wp2_with fail
    refine (hrd _).mono ?_
    rintro e w6 ⟨rfl, b6⟩
    go_wp2
    go_ret3
    exact ⟨rfl, below_both hb4 b6⟩
/-- all words of a number that may be, rounded -/
theorem pwide {s : Bool} {a : Option Addr} {m cap M i : Nat} {x mode : Int} {w : World} (hN : Num w (.slice a m cap) M i) (h1 : m ≤ 1024) (x1 : -16384 ≤ x) (x2 : x ≤ 16384) :
    Calls Tryd.prog 12 #[.bool s, .slice a m cap, .int .i64 x, .int .i64 mode] w fun e W' => ∃ z f : Nat, e = .returned (.tuple #[.int .u64 (z : Int), .int .i64 (f : Int), .int .i64 0]) ∧ (M = 0 → f = 0 ∧ (z = 0 ∨ z = 9223372036854775808)) ∧ (M ≠ 0 → rnd s M 1 x mode = (z, f)) ∧ Below w.heap.size w W' := by
  obtain ⟨xs, ⟨b, hb, hR⟩, hl, hM, _⟩ := hN
  obtain ⟨a', cap', hv, hcap, hsome⟩ := hR.slice
  simp only [Value.slice.injEq] at hv
  obtain ⟨rfl, hm, rfl⟩ := hv
  by_cases h0 : M = 0
  · subst h0
    refine (wide_none hb hR hl hM hm.symm h1 x1 x2 (by omega)).mono ?_
    rintro e W' ⟨rfl, hb⟩
    refine ⟨sgn s, 0, rfl, fun _ => ⟨rfl, ?_⟩, fun h => absurd rfl h, hb⟩
    cases s
    · exact .inl rfl
    · exact .inr rfl
  · have hx0 : 0 < xs.length := by
      refine Nat.pos_of_ne_zero fun hc => h0 ?_
      obtain rfl : xs = [] := List.eq_nil_of_length_eq_zero hc
      rw [← hM]; rfl
    obtain ⟨off, rfl⟩ := hsome hx0
    have hfin : Calls Tryd.prog 12 #[.bool s, .slice (some ⟨b, off, none⟩) m cap, .int .i64 x, .int .i64 mode] w fun e W' => e = .returned (.tuple #[.int .u64 ((rnd s M 1 x mode).1 : Int), .int .i64 ((rnd s M 1 x mode).2 : Int), .int .i64 0]) ∧ Below w.heap.size w W' := by
      obtain ⟨u, hu⟩ : ∃ u, (nbits M + 63) / 64 = u := ⟨_, rfl⟩
      match u, hu with
      | 0, hu => exact absurd (used_none hu) h0
      | 1, hu => exact wide_one hb hR hl hM hm.symm h1 x1 x2 rfl hu (by omega)
      | k + 2, hu => exact wide_two hb hR hl hM hm.symm h1 x1 x2 rfl hu (by omega)
    refine hfin.mono ?_
    rintro e W' ⟨rfl, hb⟩
    exact ⟨_, _, rfl, fun h => absurd h h0, fun _ => rfl, hb⟩
end Go.Proofs.YtgobclmihppopabDoor

/- fconv: what its calls keep. -/
namespace Go.Proofs.YtgobclmihppopabDoor
open Go.RowKit Go.Shelf
/-- is an exponent within? -/
def expV (E : Int) : Bool := decide (-16384 ≤ E) && decide (E ≤ 16384)
theorem expV_iff {E : Int} : expV E = true ↔ -16384 ≤ E ∧ E ≤ 16384 := by simp [expV]
theorem expV_not {E : Int} (h : ¬ (-16384 ≤ E ∧ E ≤ 16384)) : expV E = false := by rw [← expV_iff] at h; simpa using h
theorem isExpV (E : Int) (w : World) :
    Calls Tryd.prog 19 #[.int .i64 E] w fun e W' => e = .returned (.bool (expV E)) ∧ w = W' := by
  by_cases h1 : -16384 ≤ E
  · by_cases h2 : E ≤ 16384
    · rw [expV_iff.2 ⟨h1, h2⟩]
      go_enter Tryd.func19, Tryd.ntmps19
      go_wp2
      go_ret
      exact ⟨rfl, rfl⟩
    · rw [expV_not (by omega)]
      go_enter Tryd.func19, Tryd.ntmps19
      go_wp2
      go_ret
      exact ⟨rfl, rfl⟩
  · rw [expV_not (by omega)]
    go_enter Tryd.func19, Tryd.ntmps19
    go_wp2
    go_ret
    exact ⟨rfl, rfl⟩
theorem checkV (s : Bool) (a : Option Addr) (m cap : Nat) (E : Int) (w : World) :
    Calls Tryd.prog 11 #[.agg #[.bool s, .slice a m cap, .int .i64 E]] w fun e W' => e = .returned (.int .i64 (if mayV m E then 0 else 9)) ∧ Below w.heap.size w W' := by
  have hbx := arr_new w #[.bool s, .slice a m cap, .int .i64 E] 26
  have hmv : mayV m E = (expV E && decide (m ≤ 1024)) := rfl
  rw [hmv]
  by_cases hE : expV E = true
  · have hx := isExpV E
    rw [hE] at hx ⊢
    by_cases hm : m ≤ 1024
    · have hd : decide (1024 < m) = false := decide_eq_false (by omega)
      rw [decide_eq_true hm]
      go_enter Tryd.func11, Tryd.ntmps11
      go_wp2_with fail
      obtain ⟨hB, G⟩ := hbx _ rfl
      generalize (w.alloc (.cells #[.bool s, .slice a m cap, .int .i64 E] 26)) = W0 at hB G ⊢
      have c1 := cell_of_row W0 _ 1 _ _ (0, 0) G
      have c2 := cell_of_row W0 _ 2 _ _ (0, 0) G
      simp only [List.getElem?_toArray, List.getElem?_cons_zero, List.getElem?_cons_succ] at c1 c2
      go_wp2_with fail
      refine (hx _).mono ?_
      rintro e w1 ⟨rfl, rfl⟩
      clear hx
      go_wp2
      go_ret
      exact ⟨rfl, hB⟩
    · have hd : decide (1024 < m) = true := decide_eq_true (by omega)
      rw [decide_eq_false hm]
      go_enter Tryd.func11, Tryd.ntmps11
      go_wp2_with fail
      obtain ⟨hB, G⟩ := hbx _ rfl
      generalize (w.alloc (.cells #[.bool s, .slice a m cap, .int .i64 E] 26)) = W0 at hB G ⊢
      have c1 := cell_of_row W0 _ 1 _ _ (0, 0) G
      have c2 := cell_of_row W0 _ 2 _ _ (0, 0) G
      simp only [List.getElem?_toArray, List.getElem?_cons_zero, List.getElem?_cons_succ] at c1 c2
      go_wp2_with fail
      refine (hx _).mono ?_
      rintro e w1 ⟨rfl, rfl⟩
      clear hx
      go_wp2
      go_ret
      exact ⟨rfl, hB⟩
  · have hE : expV E = false := by simpa using hE
    have hx := isExpV E
    rw [hE] at hx ⊢
    go_enter Tryd.func11, Tryd.ntmps11
    go_wp2_with fail
    obtain ⟨hB, G⟩ := hbx _ rfl
    generalize (w.alloc (.cells #[.bool s, .slice a m cap, .int .i64 E] 26)) = W0 at hB G ⊢
    have c1 := cell_of_row W0 _ 1 _ _ (0, 0) G
    have c2 := cell_of_row W0 _ 2 _ _ (0, 0) G
    simp only [List.getElem?_toArray, List.getElem?_cons_zero, List.getElem?_cons_succ] at c1 c2
    go_wp2_with fail
    refine (hx _).mono ?_
    rintro e w1 ⟨rfl, rfl⟩
    clear hx
    go_wp2
    go_ret
    exact ⟨rfl, hB⟩
set_option maxRecDepth 100000 in
set_option maxHeartbeats 4000000 in
theorem fconv_from {s : Bool} {a : Option Addr} {m cap M i : Nat} {x mode : Int} {w : World} (hN : Num w (.slice a m cap) M i) (hi : i ≤ 4398046511104) (h1 : -9223372036854775808 ≤ x) (h2 : x ≤ 9223372036854775807) :
    Calls Tryd.prog 7 #[.agg #[.bool s, .slice a m cap, .int .i64 x], .int .i64 mode] w fun e W' => ∃ (z f : Nat) (q : Int), e = .returned (.tuple #[.int .u64 (z : Int), .int .i64 (f : Int), .int .i64 q]) ∧
      (mayV m x = false → z = 0 ∧ f = 0 ∧ q = 9) ∧ (mayV m x = true → q = 0 ∧ (M = 0 → f = 0 ∧ (z = 0 ∨ z = 9223372036854775808)) ∧ (M ≠ 0 → rnd s M 1 x mode = (z, f))) ∧ Below w.heap.size w W' := by
  have hch := fun u => checkV s a m cap x u
  have hbx := arr_new w #[.bool s, .slice a m cap, .int .i64 x] 26
  by_cases hm : mayV m x = true
  · obtain ⟨x1, x2, x3⟩ := mayV_iff.1 hm
    rw [hm, if_pos rfl] at hch
    have hw := fun u (hb : Below w.heap.size w u) => pwide (s := s) (x := x) (mode := mode) (hN.behind hb) x3 x1 x2
    have HM := Lib.hid hm
    clear hN hi hm h1 h2 x1 x2 x3
    go_enter Tryd.func7, Tryd.ntmps7
    go_wp2_with fail
    obtain ⟨hB, G⟩ := hbx _ rfl
    generalize (w.alloc (.cells #[.bool s, .slice a m cap, .int .i64 x] 26)) = W0 at hB G ⊢
    have c0 := cell_of_row W0 _ 0 _ _ (0, 0) G
    have c1 := cell_of_row W0 _ 1 _ _ (0, 0) G
    have c2 := cell_of_row W0 _ 2 _ _ (0, 0) G
    simp only [List.getElem?_toArray, List.getElem?_cons_zero, List.getElem?_cons_succ] at c0 c1 c2
    go_wp2_with fail
    refine (hch _).mono ?_
    rintro e w1 ⟨rfl, b1⟩
    replace G := (b1.block _ (Array.getElem?_eq_some_iff.1 G).1).trans G
    replace hB := below_both hB b1
    clear hch b1 c0 c1 c2
    have c0 := cell_of_row w1 _ 0 _ _ (0, 0) G
    have c1 := cell_of_row w1 _ 1 _ _ (0, 0) G
    have c2 := cell_of_row w1 _ 2 _ _ (0, 0) G
    simp only [List.getElem?_toArray, List.getElem?_cons_zero, List.getElem?_cons_succ] at c0 c1 c2
    go_wp2_with fail
    refine (hw _ hB).mono ?_
    rintro e w2 ⟨z, f, rfl, q1, q2, b2⟩
    have Q1 := Lib.hid q1
    have Q2 := Lib.hid q2
    clear q1 q2 hw
    go_wp2
    go_ret3
    exact ⟨z, f, 0, rfl, fun h => absurd (HM.out.symm.trans h) (by decide), fun _ => ⟨rfl, Q1.out, Q2.out⟩, below_both hB b2⟩
  · have hm : mayV m x = false := by simpa using hm
    rw [hm, if_neg Bool.false_ne_true] at hch
    have HM := Lib.hid hm
    clear hN hi hm h1 h2
    go_enter Tryd.func7, Tryd.ntmps7
    go_wp2_with fail
    obtain ⟨hB, G⟩ := hbx _ rfl
    generalize (w.alloc (.cells #[.bool s, .slice a m cap, .int .i64 x] 26)) = W0 at hB G ⊢
    have c0 := cell_of_row W0 _ 0 _ _ (0, 0) G
    have c1 := cell_of_row W0 _ 1 _ _ (0, 0) G
    have c2 := cell_of_row W0 _ 2 _ _ (0, 0) G
    simp only [List.getElem?_toArray, List.getElem?_cons_zero, List.getElem?_cons_succ] at c0 c1 c2
    go_wp2_with fail
    refine (hch _).mono ?_
    rintro e w1 ⟨rfl, b1⟩
    clear hch
    go_wp2
    go_ret3
    exact ⟨0, 0, 9, rfl, fun _ => ⟨rfl, rfl, rfl⟩, fun h => absurd (HM.out.symm.trans h) (by decide), below_both hB b1⟩
end Go.Proofs.YtgobclmihppopabDoor
