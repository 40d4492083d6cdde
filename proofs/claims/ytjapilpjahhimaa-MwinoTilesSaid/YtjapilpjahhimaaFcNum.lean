/- Numbers, held against each other: plain numbers. No program is named here. -/
import Derived.Test.YtjapilpjahhimaaRefSplit
import Derived.Test.YtjapilpjahhimaaPaOne
import Derived.Test.YtjapilpjahhimaaRndVal
import Derived.Test.YtjapilpjahhimaaNum
import Derived.Test.YtjapilpjahhimaaNums
import Derived.Laws.Bits64
namespace Go.Proofs.Ytjapilpjahhimaa

/-- without its sign; its place among all -/
def mag (a : Nat) : Nat := a % 9223372036854775808
def key (a : Nat) : Int := if neg6 a then -(mag a : Int) else (mag a : Int)
theorem mag_eq (a : Nat) : mag a = fe a * 4503599627370496 + ff a := by unfold mag fe ff; omega
/-- how great a number of exponent x and fraction y is, in steps of the least one -/
def stp (x y : Nat) : Nat := if x = 0 then y else (y + 4503599627370496) * 2 ^ (x - 1)
theorem stp_lt {x y : Nat} (hy : y < 4503599627370496) : stp x y < 4503599627370496 * 2 ^ x := by
  unfold stp
  split
  · rename_i h; subst h; rw [Nat.pow_zero]; omega
  · obtain ⟨z, rfl⟩ : ∃ z, x = z + 1 := ⟨x - 1, by omega⟩
    rw [Nat.add_sub_cancel, Nat.pow_succ, Nat.mul_comm (2 ^ z) 2, ← Nat.mul_assoc]
    exact Nat.mul_lt_mul_of_pos_right (by omega) (Nat.two_pow_pos z)
theorem stp_ge {x y : Nat} (hx : x ≠ 0) : 4503599627370496 * 2 ^ (x - 1) ≤ stp x y := by
  unfold stp
  rw [if_neg hx]
  exact Nat.mul_le_mul_right _ (by omega)
theorem stp_mono {x y x' y' : Nat} (hy : y < 4503599627370496) (h : x * 4503599627370496 + y < x' * 4503599627370496 + y') (hy' : y' < 4503599627370496) : stp x y < stp x' y' := by
  rcases Nat.lt_trichotomy x x' with h1 | h1 | h1
  · refine Nat.lt_of_lt_of_le (stp_lt hy) (Nat.le_trans (Nat.mul_le_mul_left _ (Nat.pow_le_pow_right (by decide) ?_)) (stp_ge (by omega)))
    omega
  · subst h1
    unfold stp
    split
    · omega
    · exact Nat.mul_lt_mul_of_pos_right (by omega) (Nat.two_pow_pos _)
  · omega
theorem stp_sig (a : Nat) : sig a * 2 ^ (xpo a + 1074).toNat = stp (fe a) (ff a) := by
  unfold sig xpo stp
  by_cases h : fe a = 0
  · rw [if_pos h, if_pos h, if_pos h]
    simp
  · rw [if_neg h, if_neg h, if_neg h, show ((fe a : Int) - 1075 + 1074).toNat = fe a - 1 by omega]
/-- scaled alike, they are as their places are -/
theorem scaled_cmp (a b : Nat) : cmpN (sig a * 2 ^ (xpo a - min (xpo a) (xpo b)).toNat) (sig b * 2 ^ (xpo b - min (xpo a) (xpo b)).toNat) = cmpN (mag a) (mag b) := by
  have xa : -1074 ≤ xpo a := by unfold xpo; split <;> omega
  have xb : -1074 ≤ xpo b := by unfold xpo; split <;> omega
  have sa := stp_sig a
  have sb := stp_sig b
  obtain ⟨e, he⟩ : ∃ e : Nat, min (xpo a) (xpo b) = (e : Int) - 1074 := ⟨(min (xpo a) (xpo b) + 1074).toNat, by omega⟩
  rw [he]
  rw [show (xpo a + 1074).toNat = (xpo a - ((e : Int) - 1074)).toNat + e by omega, Nat.pow_add, ← Nat.mul_assoc] at sa
  rw [show (xpo b + 1074).toNat = (xpo b - ((e : Int) - 1074)).toNat + e by omega, Nat.pow_add, ← Nat.mul_assoc] at sb
  have hp : 0 < 2 ^ e := Nat.two_pow_pos e
  have key1 : ∀ u v : Nat, mag u < mag v → stp (fe u) (ff u) < stp (fe v) (ff v) := by
    intro u v h
    rw [mag_eq, mag_eq] at h
    exact stp_mono (ff_lt u) h (ff_lt v)
  have key2 : mag a = mag b → stp (fe a) (ff a) = stp (fe b) (ff b) := by
    intro h
    rw [mag_eq, mag_eq] at h
    have h1 := ff_lt a
    have h2 := ff_lt b
    rw [show fe a = fe b by omega, show ff a = ff b by omega]
  generalize sig a * 2 ^ (xpo a - ((e : Int) - 1074)).toNat = X at *
  generalize sig b * 2 ^ (xpo b - ((e : Int) - 1074)).toNat = Y at *
  rcases Nat.lt_trichotomy (mag a) (mag b) with h | h | h
  · have := key1 a b h
    rw [← sa, ← sb] at this
    rw [cmpN_lt h, cmpN_lt (Nat.lt_of_mul_lt_mul_right this)]
  · have := key2 h
    rw [← sa, ← sb] at this
    rw [h, Nat.eq_of_mul_eq_mul_right hp this, cmpN_self, cmpN_self]
  · have := key1 b a h
    rw [← sa, ← sb] at this
    rw [cmpN_gt h, cmpN_gt (Nat.lt_of_mul_lt_mul_right this)]
theorem cls_mag (a : Nat) : cls a = if 9218868437227405313 ≤ mag a then 3 else if mag a = 9218868437227405312 then 2 else if mag a = 0 then 0 else 1 := by
  have hm := mag_eq a
  have h1 := ff_lt a
  have h2 := fe_lt a
  unfold cls
  generalize fe a = x at *
  generalize ff a = y at *
  generalize mag a = z at *
  by_cases c1 : x = 2047
  · subst c1
    rw [if_pos rfl]
    by_cases c2 : y = 0
    · rw [if_pos c2, if_neg (by omega), if_pos (by omega)]
    · rw [if_neg c2, if_pos (by omega)]
  · rw [if_neg c1]
    by_cases c2 : x = 0 ∧ y = 0
    · rw [if_pos c2, if_neg (by omega), if_neg (by omega), if_pos (by omega)]
    · rw [if_neg c2, if_neg (by omega), if_neg (by omega), if_neg (by omega)]
/-- is it a number? -/
def isNum (a : Nat) : Bool := decide (mag a ≤ 9218868437227405312)
theorem isNum_cls (a : Nat) : isNum a = true ↔ cls a ≠ 3 := by
  unfold isNum
  rw [cls_mag, decide_eq_true_eq]
  split
  · omega
  · split
    · omega
    · split <;> omega
def kless (a b : Nat) : Bool := isNum a && isNum b && decide (key a < key b)
def kcmp (a b : Nat) : Int × Bool := if isNum a && isNum b then (if key a < key b then -1 else if key b < key a then 1 else 0, true) else (0, false)
def nanU : Nat := 9221120237041090560
def absB (a : Nat) : Nat := if isNum a then mag a else 9221120237041090560
def negB (a : Nat) : Nat := if isNum a then (if neg6 a then mag a else mag a + 9223372036854775808) else 9221120237041090560
/-- the next one above, below -/
def nxtB (a : Nat) : Nat := if isNum a then (if a = 9218868437227405312 then a else if mag a = 0 then 1 else if neg6 a then a - 1 else a + 1) else 9221120237041090560
def prvB (a : Nat) : Nat := if isNum a then (if a = 18442240474082181120 then a else if mag a = 0 then 9223372036854775809 else if neg6 a then a + 1 else a - 1) else 9221120237041090560
def maxU (xs : List Nat) : Nat → Nat
  | 0 => 0
  | k + 1 => if isNum (lim xs k) = true ∧ maxU xs k ≠ 9221120237041090560 then max (maxU xs k) (mag (lim xs k)) else 9221120237041090560
theorem key_of {a : Nat} (ha : a < 18446744073709551616) : (neg6 a = true ∧ a = mag a + 9223372036854775808 ∧ key a = -(mag a : Int)) ∨ (neg6 a = false ∧ a = mag a ∧ key a = (mag a : Int)) := by
  unfold key neg6 mag
  by_cases h : (9223372036854775808 : Int) ≤ (a : Int)
  · rw [decide_eq_true h, if_pos rfl]; exact .inl ⟨rfl, by omega, rfl⟩
  · rw [decide_eq_false h, if_neg Bool.false_ne_true]; exact .inr ⟨rfl, by omega, rfl⟩
theorem nxt_facts {a : Nat} (ha : a < 18446744073709551616) (hn : isNum a = true) (hi : a ≠ 9218868437227405312) :
    nxtB a < 18446744073709551616 ∧ isNum (nxtB a) = true ∧ key (nxtB a) = key a + 1 ∧ (prvB (nxtB a) = a ∨ prvB (nxtB a) = 0 ∧ a = 9223372036854775808) ∧ (a = 9223372036854775809 → nxtB a = 9223372036854775808) := by
  have k := key_of ha
  have hm : mag a ≤ 9218868437227405312 := of_decide_eq_true hn
  unfold nxtB
  rw [hn, if_pos rfl, if_neg hi]
  by_cases h0 : mag a = 0
  · rw [if_pos h0]
    refine ⟨by omega, by decide, ?_, ?_, by omega⟩
    · rw [show key 1 = 1 from by decide]; omega
    · rw [show prvB 1 = 0 from by decide]; omega
  · rw [if_neg h0]
    rcases k with ⟨k1, k2, k3⟩ | ⟨k1, k2, k3⟩
    · rw [k1, if_pos rfl]
      have hz := key_of (show a - 1 < 18446744073709551616 by omega)
      have hmz : mag (a - 1) = mag a - 1 := by unfold mag at *; omega
      have hnz : isNum (a - 1) = true := decide_eq_true (by omega)
      have hgz : neg6 (a - 1) = true := decide_eq_true (by omega)
      refine ⟨by omega, hnz, ?_, ?_, by omega⟩
      · rcases hz with ⟨z1, z2, z3⟩ | ⟨z1, z2, z3⟩
        · omega
        · rw [hgz] at z1; cases z1
      · unfold prvB
        rw [hnz, if_pos rfl, if_neg (by omega), hgz, hmz]
        by_cases h1 : mag a - 1 = 0
        · rw [if_pos h1]; omega
        · rw [if_neg h1, if_pos rfl]; omega
    · rw [k1, if_neg Bool.false_ne_true]
      have hz := key_of (show a + 1 < 18446744073709551616 by omega)
      have hmz : mag (a + 1) = mag a + 1 := by unfold mag at *; omega
      have hnz : isNum (a + 1) = true := decide_eq_true (by omega)
      have hgz : neg6 (a + 1) = false := decide_eq_false (by omega)
      refine ⟨by omega, hnz, ?_, ?_, by omega⟩
      · rcases hz with ⟨z1, z2, z3⟩ | ⟨z1, z2, z3⟩
        · rw [hgz] at z1; cases z1
        · omega
      · unfold prvB
        rw [hnz, if_pos rfl, if_neg (by omega), hgz, hmz, if_neg (by omega), if_neg Bool.false_ne_true]
        omega
theorem prv_facts {a : Nat} (ha : a < 18446744073709551616) (hn : isNum a = true) (hi : a ≠ 18442240474082181120) :
    prvB a < 18446744073709551616 ∧ isNum (prvB a) = true ∧ key (prvB a) = key a - 1 ∧ (a = 1 → prvB a = 0) := by
  have k := key_of ha
  have hm : mag a ≤ 9218868437227405312 := of_decide_eq_true hn
  unfold prvB
  rw [hn, if_pos rfl, if_neg hi]
  by_cases h0 : mag a = 0
  · rw [if_pos h0]
    refine ⟨by omega, by decide, ?_, by omega⟩
    rw [show key 9223372036854775809 = -1 from by decide]; omega
  · rw [if_neg h0]
    rcases k with ⟨k1, k2, k3⟩ | ⟨k1, k2, k3⟩
    · rw [k1, if_pos rfl]
      have hz := key_of (show a + 1 < 18446744073709551616 by omega)
      have hmz : mag (a + 1) = mag a + 1 := by unfold mag at *; omega
      have hnz : isNum (a + 1) = true := decide_eq_true (by omega)
      have hgz : neg6 (a + 1) = true := decide_eq_true (by omega)
      refine ⟨by omega, hnz, ?_, by omega⟩
      rcases hz with ⟨z1, z2, z3⟩ | ⟨z1, z2, z3⟩
      · omega
      · rw [hgz] at z1; cases z1
    · rw [k1, if_neg Bool.false_ne_true]
      have hz := key_of (show a - 1 < 18446744073709551616 by omega)
      have hmz : mag (a - 1) = mag a - 1 := by unfold mag at *; omega
      have hnz : isNum (a - 1) = true := decide_eq_true (by omega)
      have hgz : neg6 (a - 1) = false := decide_eq_false (by omega)
      refine ⟨by omega, hnz, ?_, by omega⟩
      rcases hz with ⟨z1, z2, z3⟩ | ⟨z1, z2, z3⟩
      · rw [hgz] at z1; cases z1
      · omega
end Go.Proofs.Ytjapilpjahhimaa

/- fcmp: what its calls keep. -/
namespace Go.Proofs.Ytjapilpjahhimaa
open Go.RowKit Go.Shelf

/-- is one of the first ones no number? -/
def anyN (xs : List Nat) : Nat → Bool
  | 0 => false
  | k + 1 => anyN xs k || !isNum (lim xs k)
theorem anyN_up {xs : List Nat} {k : Nat} (h : anyN xs k = true) (d : Nat) : anyN xs (k + d) = true := by
  induction d with
  | zero => exact h
  | succ d ih =>
    show (anyN xs (k + d) || !isNum (lim xs (k + d))) = true
    rw [ih]
    rfl
theorem anyN_false {xs : List Nat} {k n : Nat} (h : anyN xs n = false) (hk : k ≤ n) : anyN xs k = false := by
  cases hc : anyN xs k
  · rfl
  · have := anyN_up hc (n - k)
    rw [show k + (n - k) = n by omega, h] at this
    exact Bool.noConfusion this
theorem max_some {xs : List Nat} (k : Nat) (h : anyN xs k = false) : maxU xs k ≤ 9218868437227405312 := by
  induction k with
  | zero => exact Nat.zero_le _
  | succ k ih =>
    have h1 : (anyN xs k || !isNum (lim xs k)) = false := h
    rw [Bool.or_eq_false_iff] at h1
    have h2 := ih h1.1
    have h3 : isNum (lim xs k) = true := by
      have := h1.2
      cases hc : isNum (lim xs k)
      · rw [hc] at this; exact Bool.noConfusion this
      · rfl
    have h4 : mag (lim xs k) ≤ 9218868437227405312 := of_decide_eq_true h3
    unfold maxU
    rw [if_pos ⟨h3, by omega⟩]
    omega
theorem max_next {xs : List Nat} {k : Nat} (h : anyN xs (k + 1) = false) : maxU xs (k + 1) = max (maxU xs k) (mag (lim xs k)) ∧ isNum (lim xs k) = true := by
  have h1 : (anyN xs k || !isNum (lim xs k)) = false := h
  rw [Bool.or_eq_false_iff] at h1
  have h2 := max_some k h1.1
  have h3 : isNum (lim xs k) = true := by
    have := h1.2
    cases hc : isNum (lim xs k)
    · rw [hc] at this; exact Bool.noConfusion this
    · rfl
  refine ⟨?_, h3⟩
  rw [maxU, if_pos ⟨h3, by omega⟩]
theorem max_none {xs : List Nat} (k : Nat) (h : anyN xs k = true) : maxU xs k = 9221120237041090560 := by
  induction k with
  | zero => exact Bool.noConfusion h
  | succ k ih =>
    have h1 : (anyN xs k || !isNum (lim xs k)) = true := h
    rw [maxU, if_neg]
    rintro ⟨h2, h3⟩
    rw [h2] at h1
    exact h3 (ih (by simpa using h1))
theorem cls_not {a : Nat} (h : isNum a = false) : cls a = 3 := by
  refine Classical.byContradiction fun hc => ?_
  rw [(isNum_cls a).2 hc] at h
  exact Bool.noConfusion h
theorem arg_one (W : World) {x : Nat} : Arg (W.alloc (.cells #[.int .u64 (x : Int)] 49)) (.slice (some ⟨W.heap.size, 0, none⟩) 1 1) [x] :=
  ⟨W.heap.size, by simp, (Row.new W .u64 49 [x]).rd 1 (by simp)⟩
theorem arg_two (W : World) {x y : Nat} : Arg (W.alloc (.cells #[.int .u64 (x : Int), .int .u64 (y : Int)] 49)) (.slice (some ⟨W.heap.size, 0, none⟩) 2 2) [x, y] :=
  ⟨W.heap.size, by simp, (Row.new W .u64 49 [x, y]).rd 2 (by simp)⟩
theorem any_one (a : Nat) : anyN [a] 1 = !isNum a := rfl
theorem any_two (a b : Nat) : anyN [a, b] 2 = !(isNum a && isNum b) := by
  show ((false || !isNum a) || !isNum b) = _
  cases isNum a <;> cases isNum b <;> rfl
theorem low_one {a : Nat} (ha : (a : Int) ≤ 18446744073709551615) : Low 18446744073709551616 [a] := by
  intro y hy
  simp at hy
  omega
theorem low_two {a b : Nat} (ha : (a : Int) ≤ 18446744073709551615) (hb : (b : Int) ≤ 18446744073709551615) : Low 18446744073709551616 [a, b] := by
  intro y hy
  simp at hy
  omega
theorem below_new (w : World) (o : Obj) : Below w.heap.size w (w.alloc o) := (Below.refl w.heap.size w).alloc (Nat.le_refl _) o
theorem neg_flip {a : Nat} (ha : a < 18446744073709551616) : bits .xor .u64 (a : Int) 9223372036854775808 = ((if neg6 a then mag a else mag a + 9223372036854775808 : Nat) : Int) := by
  have h : bits .xor .u64 (a : Int) 9223372036854775808 = (flip a : Int) := bits_xor_u64_nat a 9223372036854775808 ha (by omega)
  rw [h, flip_eq ha]
  rcases key_of ha with ⟨k1, k2, _⟩ | ⟨k1, k2, _⟩
  · rw [k1, if_pos rfl, if_pos rfl]; omega
  · rw [k1, if_neg Bool.false_ne_true, if_neg Bool.false_ne_true]; omega
theorem kless_cmp (a b : Nat) : decide ((kcmp a b).1 < 0) = kless a b := by
  unfold kcmp kless
  cases (isNum a && isNum b)
  · rfl
  · rw [if_pos rfl, Bool.true_and]
    by_cases h : key a < key b
    · rw [if_pos h, decide_eq_true h]; rfl
    · rw [if_neg h, decide_eq_false h]
      split <;> rfl
theorem prv_nxt {a : Nat} (ha : a < 18446744073709551616) : negB (nxtB (negB a)) = prvB a := by
  have hN : isNum 9221120237041090560 = false := by decide
  unfold prvB
  cases hn : isNum a
  · have e1 : negB a = 9221120237041090560 := by unfold negB; rw [hn]; rfl
    have e2 : nxtB 9221120237041090560 = 9221120237041090560 := by unfold nxtB; rw [hN]; rfl
    have e3 : negB 9221120237041090560 = 9221120237041090560 := by unfold negB; rw [hN]; rfl
    rw [e1, e2, e3]; rfl
  · have hm : mag a ≤ 9218868437227405312 := of_decide_eq_true hn
    rw [if_pos rfl]
    rcases key_of ha with ⟨k1, k2, _⟩ | ⟨k1, k2, _⟩
    · have e1 : negB a = mag a := by unfold negB; rw [hn, k1]; rfl
      have f1 : mag (mag a) = mag a := by unfold mag; omega
      have f2 : isNum (mag a) = true := decide_eq_true (by rw [f1]; exact hm)
      have f3 : neg6 (mag a) = false := decide_eq_false (by omega)
      rw [e1]
      by_cases c1 : a = 18442240474082181120
      · rw [if_pos c1]
        have e2 : mag a = 9218868437227405312 := by omega
        rw [e2, c1]
        decide
      · rw [if_neg c1]
        by_cases c2 : mag a = 0
        · rw [if_pos c2, c2]
          decide
        · rw [if_neg c2, k1, if_pos rfl]
          have e2 : nxtB (mag a) = mag a + 1 := by
            unfold nxtB
            rw [f2, if_pos rfl, if_neg (by omega), f1, if_neg c2, f3, if_neg Bool.false_ne_true]
          have g1 : mag (mag a + 1) = mag a + 1 := by unfold mag at *; omega
          have g2 : isNum (mag a + 1) = true := decide_eq_true (by rw [g1]; omega)
          have g3 : neg6 (mag a + 1) = false := decide_eq_false (by omega)
          rw [e2]
          unfold negB
          rw [g2, if_pos rfl, g3, if_neg Bool.false_ne_true, g1]
          omega
    · have e1 : negB a = mag a + 9223372036854775808 := by unfold negB; rw [hn, k1]; rfl
      have f1 : mag (mag a + 9223372036854775808) = mag a := by unfold mag; omega
      have f2 : isNum (mag a + 9223372036854775808) = true := decide_eq_true (by rw [f1]; exact hm)
      have f3 : neg6 (mag a + 9223372036854775808) = true := decide_eq_true (by omega)
      rw [e1, if_neg (by omega)]
      by_cases c2 : mag a = 0
      · rw [if_pos c2, c2]
        decide
      · rw [if_neg c2, k1, if_neg Bool.false_ne_true]
        have e2 : nxtB (mag a + 9223372036854775808) = mag a + 9223372036854775808 - 1 := by
          unfold nxtB
          rw [f2, if_pos rfl, if_neg (by omega), f1, if_neg c2, f3, if_pos rfl]
        have g1 : mag (mag a + 9223372036854775808 - 1) = mag a - 1 := by unfold mag at *; omega
        have g2 : isNum (mag a + 9223372036854775808 - 1) = true := decide_eq_true (by rw [g1]; omega)
        have g3 : neg6 (mag a + 9223372036854775808 - 1) = true := decide_eq_true (by omega)
        rw [e2]
        unfold negB
        rw [g2, if_pos rfl, g3, if_pos rfl, g1]
        omega
theorem negB_lt {a : Nat} : negB a ≤ 18446744073709551615 := by
  have h : mag a ≤ 9223372036854775807 := by unfold mag; omega
  unfold negB
  split
  · split <;> omega
  · omega
theorem nxtB_lt {a : Nat} (ha : a ≤ 18446744073709551615) : nxtB a ≤ 18446744073709551615 := by
  unfold nxtB
  cases hn : isNum a
  · rw [if_neg Bool.false_ne_true]; omega
  · have hm : mag a ≤ 9218868437227405312 := of_decide_eq_true hn
    unfold mag at hm
    rw [if_pos rfl]
    split
    · exact ha
    · split
      · omega
      · split <;> omega
end Go.Proofs.Ytjapilpjahhimaa
