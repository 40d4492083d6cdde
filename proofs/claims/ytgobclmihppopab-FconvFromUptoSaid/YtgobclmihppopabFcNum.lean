/- Numbers, held against each other: plain numbers. No program is named here. -/
import Derived.Test.YtgobclmihppopabRndOne
namespace Go.Proofs.Ytgobclmihppopab

/-- without its sign; its place among all -/
def mag (a : Nat) : Nat := a % 9223372036854775808
def key (a : Nat) : Int := if neg6 a then -(mag a : Int) else (mag a : Int)
theorem mag_eq (a : Nat) : mag a = fe a * 4503599627370496 + ff a := by unfold mag fe ff; omega
/-- how great a number of exponent x and fraction y is, in steps of the least one -/
def stp (x y : Nat) : Nat := if x = 0 then y else (y + 4503599627370496) * 2 ^ (x - 1)
theorem stp_lt {x y : Nat} (hy : y < 4503599627370496) : stp x y < 4503599627370496 * 2 ^ x := by
  unfold stp
  split
  · rename_i h; subst h; rw [Nat.pow_zero]; omega
  · obtain ⟨z, rfl⟩ : ∃ z, x = z + 1 := ⟨x - 1, by omega⟩
    rw [Nat.add_sub_cancel, Nat.pow_succ, Nat.mul_comm (2 ^ z) 2, ← Nat.mul_assoc]
    exact Nat.mul_lt_mul_of_pos_right (by omega) (Nat.two_pow_pos z)
theorem stp_ge {x y : Nat} (hx : x ≠ 0) : 4503599627370496 * 2 ^ (x - 1) ≤ stp x y := by
  unfold stp
  rw [if_neg hx]
  exact Nat.mul_le_mul_right _ (by omega)
theorem stp_mono {x y x' y' : Nat} (hy : y < 4503599627370496) (h : x * 4503599627370496 + y < x' * 4503599627370496 + y') (hy' : y' < 4503599627370496) : stp x y < stp x' y' := by
  rcases Nat.lt_trichotomy x x' with h1 | h1 | h1
  · refine Nat.lt_of_lt_of_le (stp_lt hy) (Nat.le_trans (Nat.mul_le_mul_left _ (Nat.pow_le_pow_right (by decide) ?_)) (stp_ge (by omega)))
    omega
  · subst h1
    unfold stp
    split
    · omega
    · exact Nat.mul_lt_mul_of_pos_right (by omega) (Nat.two_pow_pos _)
  · omega
theorem stp_sig (a : Nat) : sig a * 2 ^ (xpo a + 1074).toNat = stp (fe a) (ff a) := by
  unfold sig xpo stp
  by_cases h : fe a = 0
  · rw [if_pos h, if_pos h, if_pos h]
    simp
  · rw [if_neg h, if_neg h, if_neg h, show ((fe a : Int) - 1075 + 1074).toNat = fe a - 1 by omega]
/-- scaled alike, they are as their places are -/
theorem scaled_cmp (a b : Nat) : cmpN (sig a * 2 ^ (xpo a - min (xpo a) (xpo b)).toNat) (sig b * 2 ^ (xpo b - min (xpo a) (xpo b)).toNat) = cmpN (mag a) (mag b) := by
  have xa : -1074 ≤ xpo a := by unfold xpo; split <;> omega
  have xb : -1074 ≤ xpo b := by unfold xpo; split <;> omega
  have sa := stp_sig a
  have sb := stp_sig b
  obtain ⟨e, he⟩ : ∃ e : Nat, min (xpo a) (xpo b) = (e : Int) - 1074 := ⟨(min (xpo a) (xpo b) + 1074).toNat, by omega⟩
  rw [he]
  rw [show (xpo a + 1074).toNat = (xpo a - ((e : Int) - 1074)).toNat + e by omega, Nat.pow_add, ← Nat.mul_assoc] at sa
  rw [show (xpo b + 1074).toNat = (xpo b - ((e : Int) - 1074)).toNat + e by omega, Nat.pow_add, ← Nat.mul_assoc] at sb
  have hp : 0 < 2 ^ e := Nat.two_pow_pos e
  have key1 : ∀ u v : Nat, mag u < mag v → stp (fe u) (ff u) < stp (fe v) (ff v) := by
    intro u v h
    rw [mag_eq, mag_eq] at h
    exact stp_mono (ff_lt u) h (ff_lt v)
  have key2 : mag a = mag b → stp (fe a) (ff a) = stp (fe b) (ff b) := by
    intro h
    rw [mag_eq, mag_eq] at h
    have h1 := ff_lt a
    have h2 := ff_lt b
    rw [show fe a = fe b by omega, show ff a = ff b by omega]
  generalize sig a * 2 ^ (xpo a - ((e : Int) - 1074)).toNat = X at *
  generalize sig b * 2 ^ (xpo b - ((e : Int) - 1074)).toNat = Y at *
  rcases Nat.lt_trichotomy (mag a) (mag b) with h | h | h
  · have := key1 a b h
    rw [← sa, ← sb] at this
    rw [cmpN_lt h, cmpN_lt (Nat.lt_of_mul_lt_mul_right this)]
  · have := key2 h
    rw [← sa, ← sb] at this
    rw [h, Nat.eq_of_mul_eq_mul_right hp this, cmpN_self, cmpN_self]
  · have := key1 b a h
    rw [← sa, ← sb] at this
    rw [cmpN_gt h, cmpN_gt (Nat.lt_of_mul_lt_mul_right this)]
theorem cls_mag (a : Nat) : cls a = if 9218868437227405313 ≤ mag a then 3 else if mag a = 9218868437227405312 then 2 else if mag a = 0 then 0 else 1 := by
  have hm := mag_eq a
  have h1 := ff_lt a
  have h2 := fe_lt a
  unfold cls
  generalize fe a = x at *
  generalize ff a = y at *
  generalize mag a = z at *
  by_cases c1 : x = 2047
  · subst c1
    rw [if_pos rfl]
    by_cases c2 : y = 0
    · rw [if_pos c2, if_neg (by omega), if_pos (by omega)]
    · rw [if_neg c2, if_pos (by omega)]
  · rw [if_neg c1]
    by_cases c2 : x = 0 ∧ y = 0
    · rw [if_pos c2, if_neg (by omega), if_neg (by omega), if_pos (by omega)]
    · rw [if_neg c2, if_neg (by omega), if_neg (by omega), if_neg (by omega)]
/-- is it a number? -/
def isNum (a : Nat) : Bool := decide (mag a ≤ 9218868437227405312)
theorem isNum_cls (a : Nat) : isNum a = true ↔ cls a ≠ 3 := by
  unfold isNum
  rw [cls_mag, decide_eq_true_eq]
  split
  · omega
  · split
    · omega
    · split <;> omega
def kless (a b : Nat) : Bool := isNum a && isNum b && decide (key a < key b)
def kcmp (a b : Nat) : Int × Bool := if isNum a && isNum b then (if key a < key b then -1 else if key b < key a then 1 else 0, true) else (0, false)
def nanU : Nat := 9221120237041090560
def absB (a : Nat) : Nat := if isNum a then mag a else 9221120237041090560
def negB (a : Nat) : Nat := if isNum a then (if neg6 a then mag a else mag a + 9223372036854775808) else 9221120237041090560
/-- the next one above, below -/
def nxtB (a : Nat) : Nat := if isNum a then (if a = 9218868437227405312 then a else if mag a = 0 then 1 else if neg6 a then a - 1 else a + 1) else 9221120237041090560
def prvB (a : Nat) : Nat := if isNum a then (if a = 18442240474082181120 then a else if mag a = 0 then 9223372036854775809 else if neg6 a then a + 1 else a - 1) else 9221120237041090560
def maxU (xs : List Nat) : Nat → Nat
  | 0 => 0
  | k + 1 => if isNum (lim xs k) = true ∧ maxU xs k ≠ 9221120237041090560 then max (maxU xs k) (mag (lim xs k)) else 9221120237041090560
theorem key_of {a : Nat} (ha : a < 18446744073709551616) : (neg6 a = true ∧ a = mag a + 9223372036854775808 ∧ key a = -(mag a : Int)) ∨ (neg6 a = false ∧ a = mag a ∧ key a = (mag a : Int)) := by
  unfold key neg6 mag
  by_cases h : (9223372036854775808 : Int) ≤ (a : Int)
  · rw [decide_eq_true h, if_pos rfl]; exact .inl ⟨rfl, by omega, rfl⟩
  · rw [decide_eq_false h, if_neg Bool.false_ne_true]; exact .inr ⟨rfl, by omega, rfl⟩
theorem nxt_facts {a : Nat} (ha : a < 18446744073709551616) (hn : isNum a = true) (hi : a ≠ 9218868437227405312) :
    nxtB a < 18446744073709551616 ∧ isNum (nxtB a) = true ∧ key (nxtB a) = key a + 1 ∧ (prvB (nxtB a) = a ∨ prvB (nxtB a) = 0 ∧ a = 9223372036854775808) ∧ (a = 9223372036854775809 → nxtB a = 9223372036854775808) := by
  have k := key_of ha
  have hm : mag a ≤ 9218868437227405312 := of_decide_eq_true hn
  unfold nxtB
  rw [hn, if_pos rfl, if_neg hi]
  by_cases h0 : mag a = 0
  · rw [if_pos h0]
    refine ⟨by omega, by decide, ?_, ?_, by omega⟩
    · rw [show key 1 = 1 from by decide]; omega
    · rw [show prvB 1 = 0 from by decide]; omega
  · rw [if_neg h0]
    rcases k with ⟨k1, k2, k3⟩ | ⟨k1, k2, k3⟩
    · rw [k1, if_pos rfl]
      have hz := key_of (show a - 1 < 18446744073709551616 by omega)
      have hmz : mag (a - 1) = mag a - 1 := by unfold mag at *; omega
      have hnz : isNum (a - 1) = true := decide_eq_true (by omega)
      have hgz : neg6 (a - 1) = true := decide_eq_true (by omega)
      refine ⟨by omega, hnz, ?_, ?_, by omega⟩
      · rcases hz with ⟨z1, z2, z3⟩ | ⟨z1, z2, z3⟩
        · omega
        · rw [hgz] at z1; cases z1
      · unfold prvB
        rw [hnz, if_pos rfl, if_neg (by omega), hgz, hmz]
        by_cases h1 : mag a - 1 = 0
        · rw [if_pos h1]; omega
        · rw [if_neg h1, if_pos rfl]; omega
    · rw [k1, if_neg Bool.false_ne_true]
      have hz := key_of (show a + 1 < 18446744073709551616 by omega)
      have hmz : mag (a + 1) = mag a + 1 := by unfold mag at *; omega
      have hnz : isNum (a + 1) = true := decide_eq_true (by omega)
      have hgz : neg6 (a + 1) = false := decide_eq_false (by omega)
      refine ⟨by omega, hnz, ?_, ?_, by omega⟩
      · rcases hz with ⟨z1, z2, z3⟩ | ⟨z1, z2, z3⟩
        · rw [hgz] at z1; cases z1
        · omega
      · unfold prvB
        rw [hnz, if_pos rfl, if_neg (by omega), hgz, hmz, if_neg (by omega), if_neg Bool.false_ne_true]
        omega
theorem prv_facts {a : Nat} (ha : a < 18446744073709551616) (hn : isNum a = true) (hi : a ≠ 18442240474082181120) :
    prvB a < 18446744073709551616 ∧ isNum (prvB a) = true ∧ key (prvB a) = key a - 1 ∧ (a = 1 → prvB a = 0) := by
  have k := key_of ha
  have hm : mag a ≤ 9218868437227405312 := of_decide_eq_true hn
  unfold prvB
  rw [hn, if_pos rfl, if_neg hi]
  by_cases h0 : mag a = 0
  · rw [if_pos h0]
    refine ⟨by omega, by decide, ?_, by omega⟩
    rw [show key 9223372036854775809 = -1 from by decide]; omega
  · rw [if_neg h0]
    rcases k with ⟨k1, k2, k3⟩ | ⟨k1, k2, k3⟩
    · rw [k1, if_pos rfl]
      have hz := key_of (show a + 1 < 18446744073709551616 by omega)
      have hmz : mag (a + 1) = mag a + 1 := by unfold mag at *; omega
      have hnz : isNum (a + 1) = true := decide_eq_true (by omega)
      have hgz : neg6 (a + 1) = true := decide_eq_true (by omega)
      refine ⟨by omega, hnz, ?_, by omega⟩
      rcases hz with ⟨z1, z2, z3⟩ | ⟨z1, z2, z3⟩
      · omega
      · rw [hgz] at z1; cases z1
    · rw [k1, if_neg Bool.false_ne_true]
      have hz := key_of (show a - 1 < 18446744073709551616 by omega)
      have hmz : mag (a - 1) = mag a - 1 := by unfold mag at *; omega
      have hnz : isNum (a - 1) = true := decide_eq_true (by omega)
      have hgz : neg6 (a - 1) = false := decide_eq_false (by omega)
      refine ⟨by omega, hnz, ?_, by omega⟩
      rcases hz with ⟨z1, z2, z3⟩ | ⟨z1, z2, z3⟩
      · rw [hgz] at z1; cases z1
      · omega
end Go.Proofs.Ytgobclmihppopab
