/- fconv.Whole, ToInt: what they keep. -/
import Derived.Test.YtgobclmihppopabFvOwn
import Derived.Test.YtgobclmihppopabFaSpec
import Derived.Test.YtgobclmihppopabFcSpec
import Derived.Lib.Hide
namespace Go.Proofs.Ytgobclmihppopab
open Go.RowKit Go.Shelf

theorem and_sign {a : Nat} (ha : a < 18446744073709551616) : bits .and .u64 (a : Int) 9223372036854775808 = (sgn (neg6 a) : Int) := by
  have h := bits_and_u64_nat a 9223372036854775808 ha (by omega)
  have d1 := Nat.and_div_two_pow (a := a) (b := 9223372036854775808) (n := 63)
  have d2 := Nat.and_mod_two_pow (a := a) (b := 9223372036854775808) (n := 63)
  rw [show 9223372036854775808 / 2 ^ 63 = 1 from rfl, Nat.and_one_is_mod] at d1
  rw [show 9223372036854775808 % 2 ^ 63 = 0 from rfl, Nat.and_zero] at d2
  rw [show (9223372036854775808 : Int) = ((9223372036854775808 : Nat) : Int) from rfl, h]
  generalize a &&& 9223372036854775808 = c at *
  unfold neg6 sgn
  by_cases hc : (9223372036854775808 : Int) ≤ (a : Int)
  · rw [decide_eq_true hc, show c = 9223372036854775808 by omega]; rfl
  · rw [decide_eq_false hc, show c = 0 by omega]; rfl
theorem key_low {a : Nat} (h : a < 9223372036854775808) : key a = (a : Int) := by
  have hm : mag a = a := by unfold mag; omega
  have hn : neg6 a = false := by unfold neg6; exact decide_eq_false (by omega)
  unfold key
  rw [hm, hn, if_neg Bool.false_ne_true]
theorem mag_lt (a : Nat) : mag a < 9223372036854775808 := Nat.mod_lt _ (by decide)
theorem less_low {a k : Nat} (hc : cls a ≠ 3) (hk : k ≤ 9218868437227405312) : kless (absB a) k = decide (mag a < k) := by
  have hi := (isNum_cls a).2 hc
  have hm : mag a ≤ 9218868437227405312 := by
    unfold isNum at hi
    exact of_decide_eq_true hi
  have h1 : absB a = mag a := by unfold absB; rw [hi, if_pos rfl]
  have h2 : isNum (mag a) = true := by unfold isNum; refine decide_eq_true ?_; unfold mag at *; omega
  have h3 : isNum k = true := by unfold isNum; refine decide_eq_true ?_; unfold mag; omega
  unfold kless
  rw [h1, h2, h3, key_low (mag_lt a), key_low (by omega)]
  simp only [Bool.and_self, Bool.true_and]
  exact decide_eq_decide.2 (by omega)
set_option maxRecDepth 100000 in
set_option maxHeartbeats 8000000 in
theorem fconv_whole {a : Nat} {mode : Int} {w : World} (ha : (a : Int) ≤ 18446744073709551615) :
    Calls Try.prog 39 #[.int .u64 (a : Int), .int .i64 mode] w fun e W' => e = .returned (.tuple #[.int .u64 ((wholeB a mode).1 : Int), .int .i64 ((wholeB a mode).2 : Int)]) ∧ Below w.heap.size w W' := by
  have hA := fun u => pclass1 (w := u) ha
  have ca3 := cls_le a
  have ca4 : cls a = 0 ∨ cls a = 1 ∨ cls a = 2 ∨ cls a = 3 := by omega
  clear ca3
  rcases ca4 with hc | hc | hc | hc
  · rw [whole_zero (by omega) hc]
    rw [hc] at hA
    clear hc
    go_enter Try.func39, Try.ntmps39
    go_wp2_with fail
    refine (hA _).mono ?_
    rintro e w1 ⟨rfl, rfl⟩
    clear hA
    go_wp2
    go_ret2
    exact ⟨rfl, Below.refl _ _⟩
  · have hab := fun u => fcmp_abs (w := u) ha
    have hml := mag_lt a
    have habs : (absB a : Int) ≤ 18446744073709551615 := by
      unfold absB
      split <;> omega
    have hls := fun u => fcmp_less (a := absB a) (b := 4841369599423283200) (w := u) habs (by decide)
    rw [less_low (by omega) (by decide)] at hls
    by_cases hm : mag a < 4841369599423283200
    · have h0 : sig a ≠ 0 := Nat.ne_of_gt (sig_pos hc)
      obtain ⟨e1, hq⟩ := whole_far (mode := mode) hm h0
      rw [decide_eq_true hm] at hls
      have e2 := whole_near (s := neg6 a) (mode := mode) hq
      obtain ⟨l1, l2, l3⟩ := whole_bits (s := neg6 a) (mode := mode) hq
      rw [whole_fin hc]
      rw [hc] at hA
      have hs := and_sign (a := a) (by omega)
      have ho := or_sign (neg6 a) (q := 4841369599423283200) (by omega)
      have ho2 := or_sign (neg6 a) l3
      rw [l2] at ho2
      have hbl := (big_52 (neg6 a)).2.2.2.2.1
      have hadd := fun u => fadd_add (a := a) (b := sgn (neg6 a) + 4841369599423283200) (mode := mode) (w := u) ha (by omega)
      rw [e1] at hadd
      dsimp only at hadd
      have hsg : sgn (neg6 a) ≤ 9223372036854775808 := sgn_le _
      have hsub := fun u => fadd_sub (a := sgn (neg6 a) + (4841369599423283200 + wqA a mode)) (b := sgn (neg6 a) + 4841369599423283200) (mode := mode) (w := u) (by omega) (by omega)
      rw [e2] at hsub
      generalize (if wqA a mode = 0 then (sgn (decide (mode = 4)), 0) else rnd (neg6 a) (wqA a mode) 1 0 mode) = R at *
      obtain ⟨r, rf⟩ := R
      dsimp only at hsub l1 l2 l3 ho2
      have hab2 := fun u => fcmp_abs (a := r) (w := u) (by omega)
      have hsi : (sgn (neg6 a) : Int) ≤ 18446744073709551615 := by omega
      have hwb : (wbits (neg6 a) (wqA a mode) : Int) ≤ 18446744073709551615 := by rw [← l2]; omega
      have hai : (absB r : Int) ≤ 18446744073709551615 := by omega
      replace ho : bits .or .u64 (sgn (neg6 a) : Int) 4841369599423283200 = ((sgn (neg6 a) + 4841369599423283200 : Nat) : Int) := ho
      replace hls : ∀ u, Calls Try.prog 24 #[.int .u64 (absB a : Int), .int .u64 4841369599423283200] u fun e W' => e = .returned (.bool true) ∧ Below u.heap.size u W' := hls
      generalize wbits (neg6 a) (wqA a mode) = q at *
      generalize sgn (neg6 a) + (4841369599423283200 + wqA a mode) = F at *
      generalize sgn (neg6 a) + 4841369599423283200 = B at *
      generalize sgn (neg6 a) = s at *
      generalize absB a = m at *
      generalize absB r = m2 at *
      generalize wflag a = f at *
      clear l1 l2 l3 e1 e2 hq hm h0 hml hc hsg hbl
      go_enter Try.func39, Try.ntmps39
      go_wp2_with fail
      refine (hA _).mono ?_
      rintro e w1 ⟨rfl, rfl⟩
      clear hA
      go_wp2_with fail
      refine (hab _).mono ?_
      rintro e w2 ⟨rfl, b1⟩
      clear hab
      go_wp2_with fail
      refine (hls _).mono ?_
      rintro e w3 ⟨rfl, b2⟩
      replace b1 := below_both b1 b2
      clear hls b2
      go_wp2_with fail
      refine (hadd _).mono ?_
      rintro e w4 ⟨rfl, b2⟩
      replace b1 := below_both b1 b2
      clear hadd b2
      go_wp2_with fail
      refine (hsub _).mono ?_
      rintro e w5 ⟨rfl, b2⟩
      replace b1 := below_both b1 b2
      clear hsub b2
      go_wp2_with fail
      refine (hab2 _).mono ?_
      rintro e w6 ⟨rfl, b2⟩
      replace b1 := below_both b1 b2
      clear hab2 b2
      go_wp2
      go_ret2
      exact ⟨rfl, b1⟩
    · rw [decide_eq_false hm] at hls
      rw [whole_great (by omega) hc hm]
      rw [hc] at hA
      replace hls : ∀ u, Calls Try.prog 24 #[.int .u64 (absB a : Int), .int .u64 4841369599423283200] u fun e W' => e = .returned (.bool false) ∧ Below u.heap.size u W' := hls
      generalize absB a = m at *
      clear hm hml hc
      go_enter Try.func39, Try.ntmps39
      go_wp2_with fail
      refine (hA _).mono ?_
      rintro e w1 ⟨rfl, rfl⟩
      clear hA
      go_wp2_with fail
      refine (hab _).mono ?_
      rintro e w2 ⟨rfl, b1⟩
      clear hab
      go_wp2_with fail
      refine (hls _).mono ?_
      rintro e w3 ⟨rfl, b2⟩
      replace b1 := below_both b1 b2
      go_wp2
      go_ret2
      exact ⟨rfl, b1⟩
  · rw [whole_inf hc]
    rw [hc] at hA
    clear hc
    go_enter Try.func39, Try.ntmps39
    go_wp2_with fail
    refine (hA _).mono ?_
    rintro e w1 ⟨rfl, rfl⟩
    clear hA
    go_wp2
    go_ret2
    exact ⟨rfl, Below.refl _ _⟩
  · rw [whole_nan hc]
    rw [hc] at hA
    clear hc
    go_enter Try.func39, Try.ntmps39
    go_wp2_with fail
    refine (hA _).mono ?_
    rintro e w1 ⟨rfl, rfl⟩
    clear hA
    go_wp2
    go_ret2
    exact ⟨rfl, Below.refl _ _⟩
/- ToInt -/
theorem cmpN_mul {x y c : Nat} (hc : 0 < c) : cmpN (x * c) (y * c) = cmpN x y := by
  rcases Nat.lt_trichotomy x y with h | h | h
  · rw [cmpN_lt h, cmpN_lt (Nat.mul_lt_mul_of_pos_right h hc)]
  · rw [h, cmpN_self, cmpN_self]
  · rw [cmpN_gt h, cmpN_gt (Nat.mul_lt_mul_of_pos_right h hc)]
theorem great_62 : sig 4886405595696988160 = 2 ^ 52 ∧ xpo 4886405595696988160 = 10 ∧ mag 4886405595696988160 = 4886405595696988160 := by decide
/-- which whole numbers are beyond 2^62 -/
theorem mag_62 {b q : Nat} (h : sig b * 2 ^ (xpo b - min (xpo b) 0).toNat = q * 2 ^ (-min (xpo b) 0).toNat) : cmpN (mag b) 4886405595696988160 = cmpN q 4611686018427387904 := by
  have hs := scaled_cmp b 4886405595696988160
  obtain ⟨g1, g2, g3⟩ := great_62
  rw [g1, g2, g3] at hs
  rw [← hs]
  have h62 : (4611686018427387904 : Nat) = 2 ^ 62 := rfl
  by_cases hx : 0 ≤ xpo b
  · rw [show (xpo b - min (xpo b) 0).toNat = (xpo b).toNat by omega, show (-min (xpo b) 0).toNat = 0 by omega, Nat.pow_zero, Nat.mul_one] at h
    obtain ⟨m, hm⟩ : ∃ m : Nat, min (xpo b) 10 = m := ⟨(min (xpo b) 10).toNat, by omega⟩
    rw [hm, ← h, h62, ← cmpN_mul (Nat.two_pow_pos m), Nat.mul_assoc, Nat.mul_assoc, ← Nat.pow_add, ← Nat.pow_add, ← Nat.pow_add, show (xpo b - (m : Int)).toNat + m = (xpo b).toNat by omega, show 52 + (((10 : Int) - (m : Int)).toNat + m) = 62 by omega]
  · rw [show (xpo b - min (xpo b) 0).toNat = 0 by omega, show (-min (xpo b) 0).toNat = (-xpo b).toNat by omega, Nat.pow_zero, Nat.mul_one] at h
    rw [show min (xpo b) 10 = xpo b by omega, show (xpo b - xpo b).toNat = 0 by omega, Nat.pow_zero, Nat.mul_one, h, ← Nat.pow_add, h62, show 52 + ((10 : Int) - xpo b).toNat = 62 + (-xpo b).toNat by omega, Nat.pow_add, cmpN_mul (Nat.two_pow_pos _)]
theorem cmp_low {a k : Nat} (hc : cls a ≠ 3) (hk : k ≤ 9218868437227405312) : kcmp (absB a) k = (cmpN (mag a) k, true) := by
  have hi := (isNum_cls a).2 hc
  have hm : mag a ≤ 9218868437227405312 := by
    unfold isNum at hi
    exact of_decide_eq_true hi
  have h1 : absB a = mag a := by unfold absB; rw [hi, if_pos rfl]
  have h2 : isNum (mag a) = true := by unfold isNum; refine decide_eq_true ?_; unfold mag at *; omega
  have h3 : isNum k = true := by unfold isNum; refine decide_eq_true ?_; unfold mag; omega
  unfold kcmp cmpN
  rw [h1, h2, h3, key_low (mag_lt a), key_low (by omega)]
  simp only [Bool.and_self, if_true]
  congr 1
  by_cases c1 : mag a < k
  · rw [if_pos c1, if_pos (by omega)]
  · rw [if_neg c1, if_neg (by omega)]
    by_cases c2 : k < mag a
    · rw [if_pos c2, if_pos (by omega)]
    · rw [if_neg c2, if_neg (by omega)]
theorem absB_le {a : Nat} : (absB a : Int) ≤ 18446744073709551615 := by
  have := mag_lt a
  unfold absB
  split <;> omega
theorem cmp_nan : kcmp (absB 9221120237041090560) 4886405595696988160 = (0, false) := by decide
theorem mag_inf {a : Nat} (hc : cls a = 2) : mag a = 9218868437227405312 := by
  have h := cls_mag a
  rw [hc] at h
  split at h
  · omega
  · split at h
    · assumption
    · split at h <;> omega
set_option maxRecDepth 100000 in
set_option maxHeartbeats 8000000 in
theorem toInt_no {a b f : Nat} {mode o : Int} {t : Bool} {w : World} (hW : ∀ u : World, Calls Try.prog 39 #[.int .u64 (a : Int), .int .i64 mode] u fun e W' => e = .returned (.tuple #[.int .u64 (b : Int), .int .i64 (f : Int)]) ∧ Below u.heap.size u W') (hb : (b : Int) ≤ 18446744073709551615)
    (hk : kcmp (absB b) 4886405595696988160 = (o, t)) (h : t = false ∨ t = true ∧ o = 1) :
    Calls Try.prog 40 #[.int .u64 (a : Int), .int .i64 mode] w fun e W' => e = .returned (.tuple #[.int .i64 0, .int .i64 1]) ∧ Below w.heap.size w W' := by
  have hab := fun u => fcmp_abs (w := u) hb
  have hcm := fun u => fcmp_cmp (a := absB b) (b := 4886405595696988160) (w := u) absB_le (by decide)
  rw [hk] at hcm
  replace hcm : ∀ u, Calls Try.prog 23 #[.int .u64 (absB b : Int), .int .u64 4886405595696988160] u fun e W' => e = .returned (.tuple #[.int .i64 o, .bool t]) ∧ Below u.heap.size u W' := hcm
  have habs := absB_le (a := b)
  clear hk
  generalize absB b = m at *
  rcases h with rfl | ⟨rfl, rfl⟩
  all_goals
    go_enter Try.func40, Try.ntmps40
    go_wp2_with fail
    refine (hW _).mono ?_
    rintro e w1 ⟨rfl, b1⟩
    clear hW
    go_wp2_with fail
    refine (hab _).mono ?_
    rintro e w2 ⟨rfl, b2⟩
    replace b1 := below_both b1 b2
    clear hab b2
    go_wp2_with fail
    refine (hcm _).mono ?_
    rintro e w3 ⟨rfl, b2⟩
    replace b1 := below_both b1 b2
    clear hcm b2
    go_wp2
    go_ret2
    exact ⟨rfl, b1⟩
set_option maxRecDepth 100000 in
set_option maxHeartbeats 8000000 in
theorem toInt_yes {a b f q m : Nat} {mode o x n : Int} {s : Bool} {w : World} (hW : ∀ u : World, Calls Try.prog 39 #[.int .u64 (a : Int), .int .i64 mode] u fun e W' => e = .returned (.tuple #[.int .u64 (b : Int), .int .i64 (f : Int)]) ∧ Below u.heap.size u W') (hb : (b : Int) ≤ 18446744073709551615)
    (hk : kcmp (absB b) 4886405595696988160 = (o, true)) (ho : o ≤ 0) (ho2 : -1 ≤ o)
    (hS : ∀ u : World, Calls Try.prog 51 #[.int .u64 (b : Int)] u fun e W' => e = .returned (.tuple #[.bool s, .int .u64 (m : Int), .int .i64 x, .int .i64 0]) ∧ u = W')
    (hm : m < 9007199254740992) (hq : q ≤ 4611686018427387904) (hn : n = sv s q) (hx : (∃ p : Nat, p ≤ 63 ∧ x = p ∧ m * 2 ^ p = q) ∨ (∃ p : Nat, 1 ≤ p ∧ p ≤ 2000 ∧ x = -(p : Int) ∧ m / 2 ^ p = q)) :
    Calls Try.prog 40 #[.int .u64 (a : Int), .int .i64 mode] w fun e W' => e = .returned (.tuple #[.int .i64 n, .int .i64 (f : Int)]) ∧ Below w.heap.size w W' := by
  have hab := fun u => fcmp_abs (w := u) hb
  have hcm := fun u => fcmp_cmp (a := absB b) (b := 4886405595696988160) (w := u) absB_le (by decide)
  rw [hk] at hcm
  replace hcm : ∀ u, Calls Try.prog 23 #[.int .u64 (absB b : Int), .int .u64 4886405595696988160] u fun e W' => e = .returned (.tuple #[.int .i64 o, .bool true]) ∧ Below u.heap.size u W' := hcm
  have habs := absB_le (a := b)
  clear hk
  generalize absB b = c at *
  have d0 : decide (0 < o) = false := decide_eq_false (by omega)
  have d1 : decide (o > 0) = false := decide_eq_false (by omega)
  have hqi : (q : Int) ≤ 4611686018427387904 := by omega
  have hmi : (m : Int) ≤ 9007199254740991 := by omega
  rcases hx with ⟨p, hp, rfl, hmp⟩ | ⟨p, hp1, hp2, rfl, hmp⟩
  · have v1 : max (p : Int) 0 = (p : Int) := by omega
    have v2 : max (-(p : Int)) 0 = 0 := by omega
    have sh := shl_any m p
    rw [hmp, Nat.mod_eq_of_lt (by omega)] at sh
    have hpi : (p : Int) ≤ 63 := by omega
    clear hmp hm hq ho
    cases s
    all_goals
      simp only [sv, if_true, Bool.false_eq_true, if_false] at hn
      subst hn
      go_enter Try.func40, Try.ntmps40
      go_wp2_with fail
      refine (hW _).mono ?_
      rintro e w1 ⟨rfl, b1⟩
      clear hW
      go_wp2_with fail
      refine (hab _).mono ?_
      rintro e w2 ⟨rfl, b2⟩
      replace b1 := below_both b1 b2
      clear hab b2
      go_wp2_with fail
      refine (hcm _).mono ?_
      rintro e w3 ⟨rfl, b2⟩
      replace b1 := below_both b1 b2
      clear hcm b2
      go_wp2_with fail
      refine (hS _).mono ?_
      rintro e w4 ⟨rfl, rfl⟩
      clear hS
      go_wp2
      go_ret2
      exact ⟨rfl, b1⟩
  · have v1 : max (-(p : Int)) 0 = 0 := by omega
    have v2 : max (p : Int) 0 = (p : Int) := by omega
    have sh := shr_any (x := m) (by omega) p
    rw [hmp] at sh
    have hpi : (p : Int) ≤ 2000 := by omega
    have hpj : 1 ≤ (p : Int) := by omega
    clear hmp hm hq ho hp1 hp2
    cases s
    all_goals
      simp only [sv, if_true, Bool.false_eq_true, if_false] at hn
      subst hn
      go_enter Try.func40, Try.ntmps40
      go_wp2_with fail
      refine (hW _).mono ?_
      rintro e w1 ⟨rfl, b1⟩
      clear hW
      go_wp2_with fail
      refine (hab _).mono ?_
      rintro e w2 ⟨rfl, b2⟩
      replace b1 := below_both b1 b2
      clear hab b2
      go_wp2_with fail
      refine (hcm _).mono ?_
      rintro e w3 ⟨rfl, b2⟩
      replace b1 := below_both b1 b2
      clear hcm b2
      go_wp2_with fail
      refine (hS _).mono ?_
      rintro e w4 ⟨rfl, rfl⟩
      clear hS
      go_wp2
      go_ret2
      exact ⟨rfl, b1⟩
theorem fconv_toInt {a : Nat} {mode : Int} {w : World} (ha : (a : Int) ≤ 18446744073709551615) :
    Calls Try.prog 40 #[.int .u64 (a : Int), .int .i64 mode] w fun e W' => e = .returned (.tuple #[.int .i64 (toIntB a mode).1, .int .i64 ((toIntB a mode).2 : Int)]) ∧ Below w.heap.size w W' := by
  have hW := fun u => fconv_whole (mode := mode) (w := u) ha
  have ca3 := cls_le a
  have ca4 : cls a ≤ 1 ∨ cls a = 2 ∨ cls a = 3 := by omega
  rcases ca4 with hc | hc | hc
  · have hwB : wholeB a mode = (wbits (neg6 a) (wqA a mode), wflag a) := by unfold wholeB; rw [if_neg (by omega), if_neg (by omega)]
    rw [hwB] at hW
    dsimp only at hW
    obtain ⟨k1, k2, k3, k4, k5⟩ := wbits_is (a := a) (mode := mode) (by omega) hc
    obtain ⟨b, hb⟩ : ∃ b, b = wbits (neg6 a) (wqA a mode) := ⟨_, rfl⟩
    obtain ⟨q, hq⟩ : ∃ q, q = wqA a mode := ⟨_, rfl⟩
    rw [← hq] at hb
    rw [← hq, ← hb] at k1 k2 k3 k4 k5 hW
    have fb : fe b ≠ 2047 := by
      intro h
      unfold xpo at k4
      rw [h] at k4
      revert k4
      decide
    have hcb := cls_fin.2 fb
    have hcm := cmp_low (a := b) (k := 4886405595696988160) (by omega) (by decide)
    rw [mag_62 k5] at hcm
    by_cases hg : 4611686018427387904 < q
    · have e : toIntB a mode = (0, 1) := by unfold toIntB; rw [if_neg (by omega), if_pos (by rw [← hq]; exact hg)]
      rw [e]
      rw [cmpN_gt hg] at hcm
      exact toInt_no hW (by omega) hcm (.inr ⟨rfl, rfl⟩)
    · have e : toIntB a mode = (sv (neg6 a) q, wflag a) := by unfold toIntB; rw [if_neg (by omega), ← hq, if_neg hg]
      rw [e]
      have hS := fun u => psplit_fin1 (a := b) (w := u) (by omega) fb
      have hsl : sig b < 9007199254740992 := by
        have := ff_lt b
        unfold sig; split <;> omega
      rw [k1] at hS
      have ho : -1 ≤ cmpN q 4611686018427387904 ∧ cmpN q 4611686018427387904 ≤ 0 := by
        unfold cmpN
        split
        · omega
        · first | omega | (split <;> omega)
      refine toInt_yes hW (by omega) hcm ho.2 ho.1 hS hsl (by omega) rfl ?_
      by_cases hx : 0 ≤ xpo b
      · rw [show (xpo b - min (xpo b) 0).toNat = (xpo b).toNat by omega, show (-min (xpo b) 0).toNat = 0 by omega, Nat.pow_zero, Nat.mul_one] at k5
        refine .inl ⟨(xpo b).toNat, ?_, by omega, k5⟩
        refine Nat.not_lt.1 fun hc2 => ?_
        have hs0 : sig b ≠ 0 := by
          intro h
          have := (sig_zero k2 h).2
          omega
        have h1 : 2 ^ 64 ≤ 2 ^ (xpo b).toNat := Nat.pow_le_pow_right (by decide) (by omega)
        have h2 := Nat.le_mul_of_pos_left (2 ^ (xpo b).toNat) (Nat.pos_of_ne_zero hs0)
        rw [k5] at h2
        have h3 : (2 : Nat) ^ 64 = 18446744073709551616 := rfl
        omega
      · rw [show (xpo b - min (xpo b) 0).toNat = 0 by omega, show (-min (xpo b) 0).toNat = (-xpo b).toNat by omega, Nat.pow_zero, Nat.mul_one] at k5
        refine .inr ⟨(-xpo b).toNat, by omega, by omega, by omega, ?_⟩
        rw [k5]
        exact Nat.mul_div_cancel _ (Nat.two_pow_pos _)
  · have e : toIntB a mode = (0, 1) := by unfold toIntB; rw [if_pos (by omega)]
    rw [e]
    rw [whole_inf hc] at hW
    have hcm := cmp_low (a := a) (k := 4886405595696988160) (by omega) (by decide)
    rw [mag_inf hc] at hcm
    exact toInt_no hW ha hcm (.inr ⟨rfl, by decide⟩)
  · have e : toIntB a mode = (0, 1) := by unfold toIntB; rw [if_pos (by omega)]
    rw [e]
    rw [whole_nan hc] at hW
    exact toInt_no (b := 9221120237041090560) hW (by decide) cmp_nan (.inl rfl)
end Go.Proofs.Ytgobclmihppopab
