/- The other sign; sums of numbers that are told exactly: plain numbers. -/
import Derived.Test.YtdcebkhdnhdejaaRndVal
namespace Go.Proofs.Ytdcebkhdnhdejaa

theorem xor_low {c : Nat} (h : c < 9223372036854775808) : c ^^^ 9223372036854775808 = c + 9223372036854775808 := by
  rw [Nat.add_comm, show 9223372036854775808 = 2 ^ 63 from rfl]
  apply Nat.eq_of_testBit_eq
  intro i
  rw [Nat.testBit_xor, Nat.testBit_two_pow]
  rcases Nat.lt_trichotomy i 63 with hi | hi | hi
  · rw [Nat.testBit_two_pow_add_gt hi, decide_eq_false (by omega : ¬ 63 = i)]
    cases c.testBit i <;> rfl
  · subst hi
    rw [Nat.testBit_two_pow_add_eq]
    simp
  · have h1 : c.testBit i = false := Nat.testBit_lt_two_pow (Nat.lt_of_lt_of_le (show c < 2 ^ 63 from h) (Nat.pow_le_pow_right (show 0 < 2 by decide) (by omega : 63 ≤ i)))
    have h2 : (2 ^ 63 + c).testBit i = false := Nat.testBit_lt_two_pow (Nat.lt_of_lt_of_le (show 2 ^ 63 + c < 2 ^ 64 by omega) (Nat.pow_le_pow_right (show 0 < 2 by decide) (by omega : 64 ≤ i)))
    rw [h1, h2, decide_eq_false (by omega : ¬ 63 = i)]
    rfl
/-- the other sign -/
def flip (b : Nat) : Nat := b ^^^ 9223372036854775808
theorem flip_eq {b : Nat} (hb : b < 18446744073709551616) : flip b = if neg6 b then b - 9223372036854775808 else b + 9223372036854775808 := by
  unfold flip neg6
  by_cases h : (9223372036854775808 : Int) ≤ (b : Int)
  · rw [decide_eq_true h, if_pos rfl]
    obtain ⟨c, rfl⟩ : ∃ c, b = c + 9223372036854775808 := ⟨b - 9223372036854775808, by omega⟩
    rw [← xor_low (by omega), Nat.xor_assoc, Nat.xor_self, Nat.xor_zero, xor_low (by omega)]
    omega
  · rw [decide_eq_false h, if_neg Bool.false_ne_true, xor_low (by omega)]
theorem flip_facts {b : Nat} (hb : b < 18446744073709551616) : flip b < 18446744073709551616 ∧ neg6 (flip b) = !neg6 b ∧ fe (flip b) = fe b ∧ ff (flip b) = ff b := by
  rw [flip_eq hb]
  have h1 := bits_eq hb
  by_cases h : (9223372036854775808 : Int) ≤ (b : Int)
  · have hn : neg6 b = true := decide_eq_true h
    rw [hn, if_pos rfl]
    refine ⟨by omega, decide_eq_false (by omega), ?_, ?_⟩
    · unfold fe; omega
    · unfold ff; omega
  · have hn : neg6 b = false := decide_eq_false h
    rw [hn, if_neg Bool.false_ne_true]
    refine ⟨by omega, decide_eq_true (by omega), ?_, ?_⟩
    · unfold fe; omega
    · unfold ff; omega
theorem flip_flip {b : Nat} : flip (flip b) = b := by
  unfold flip
  rw [Nat.xor_assoc, Nat.xor_self, Nat.xor_zero]
theorem flip_told {b : Nat} (hb : b < 18446744073709551616) : cls (flip b) = cls b ∧ sig (flip b) = sig b ∧ xpo (flip b) = xpo b := by
  obtain ⟨_, _, h1, h2⟩ := flip_facts hb
  unfold cls sig xpo
  rw [h1, h2]
  exact ⟨rfl, rfl, rfl⟩
/-- Sub -/
def rsubt (a b : Nat) (mode : Int) : Nat × Nat := if cls b = 3 then (9221120237041090560, 0) else radd a (flip b) mode
theorem cls_zero : cls 0 = 0 := by decide
theorem sgn_two (s : Bool) : sgn s * 2 % 18446744073709551616 = 0 := by cases s <;> rfl
/-- a number less itself -/
theorem rsub_self {a : Nat} {mode : Int} (ha : a < 18446744073709551616) (hc : cls a ≤ 1) : ∃ s, rsubt a a mode = (sgn s, 0) := by
  obtain ⟨_, k1, _, _⟩ := flip_facts ha
  obtain ⟨k2, k3, k4⟩ := flip_told ha
  unfold rsubt radd
  rw [k2, if_neg (by omega), if_neg (by omega), if_neg (by omega), if_neg (by omega), if_neg (by omega)]
  unfold rsum
  have h0 : ssum (neg6 a) (sig a) (xpo a) (neg6 (flip a)) (sig (flip a)) (xpo (flip a)) = 0 := by
    unfold ssum
    rw [k1, k3, k4]
    cases neg6 a <;> (simp [sv]; omega)
  rw [if_pos h0, k1]
  have hne : ¬ neg6 a = !neg6 a := by cases neg6 a <;> decide
  rw [if_neg hne]
  exact ⟨_, rfl⟩
theorem decide_sv {neg : Bool} {N : Nat} (h : 0 < N) : decide (sv neg N < 0) = neg ∧ (sv neg N).natAbs = N ∧ sv neg N ≠ 0 := by
  cases neg
  · refine ⟨decide_eq_false ?_, ?_, ?_⟩ <;> simp [sv] <;> omega
  · refine ⟨decide_eq_true ?_, ?_, ?_⟩ <;> simp [sv] <;> omega
theorem sv_mul (neg : Bool) (N k : Nat) : sv neg (N * k) = sv neg N * (k : Int) := by
  cases neg <;> simp [sv, Int.neg_mul]
/-- whatever sum is a number is told as that -/
theorem rsum_is {neg other : Bool} {m k N x : Nat} {p q mode : Int} {a : Nat} (ha : a < 18446744073709551616) (hc : fe a ≠ 2047) (h0 : sig a ≠ 0) (hS : ssum neg m p other k q = sv (neg6 a) N)
    (h : N = sig a * 2 ^ x ∧ min p q = xpo a - x ∨ N * 2 ^ x = sig a ∧ min p q = xpo a + x) : rsum neg m p other k q mode = (a, 0) := by
  have hN : 0 < N := by
    rcases h with ⟨rfl, _⟩ | ⟨h1, _⟩
    · exact Nat.mul_pos (by omega) (Nat.two_pow_pos _)
    · rcases Nat.eq_zero_or_pos N with z | z
      · subst z; rw [Nat.zero_mul] at h1; omega
      · exact z
  obtain ⟨d1, d2, d3⟩ := decide_sv (neg := neg6 a) hN
  unfold rsum
  rw [hS, if_neg d3, d1, d2]
  exact rnd_is ha hc h0 h
theorem sgn_lt (s : Bool) : sgn s ≤ 18446744073709551615 := by cases s <;> decide
theorem rsum_lt {neg other : Bool} {m k : Nat} {p q mode : Int} : (rsum neg m p other k q mode).1 ≤ 18446744073709551615 := by
  unfold rsum
  split
  · split <;> exact sgn_lt _
  · rename_i h
    exact rnd_lt _ (by omega) (by decide) _ _
theorem radd_lt {a b : Nat} {mode : Int} (ha : a ≤ 18446744073709551615) (hb : b ≤ 18446744073709551615) : (radd a b mode).1 ≤ 18446744073709551615 := by
  unfold radd
  split
  · decide
  · split
    · decide
    · split
      · exact ha
      · split
        · exact hb
        · exact rsum_lt
theorem upper_zero (z : Int) : upper 0 z = 0 := Nat.zero_mul _
theorem sv_zero (b : Bool) : sv b 0 = 0 := by cases b <;> rfl
/-- with 0 it is itself -/
theorem radd_zero {a : Nat} {mode : Int} (ha : a < 18446744073709551616) (hc : cls a ≤ 1) : (radd a 0 mode).2 = 0 ∧ ((radd a 0 mode).1 = a ∨ a * 2 % 18446744073709551616 = 0 ∧ (radd a 0 mode).1 * 2 % 18446744073709551616 = 0) := by
  have hfe : fe a ≠ 2047 := cls_fin.1 hc
  have hx := xpo_range06 a
  unfold radd
  rw [cls_zero, if_neg (by omega), if_neg (by omega), if_neg (by omega), if_neg (by omega)]
  have e1 : neg6 0 = false := by decide
  have e2 : sig 0 = 0 := by decide
  have e3 : xpo 0 = -1074 := by decide
  rw [e1, e2, e3]
  have hm : min (xpo a) (-1074) = -1074 := by omega
  by_cases h0 : sig a = 0
  · obtain ⟨z1, z2⟩ := sig_zero ha h0
    have hS : ssum (neg6 a) (sig a) (xpo a) false 0 (-1074) = 0 := by
      unfold ssum
      rw [h0, upper_zero, upper_zero, sv_zero, sv_zero]; rfl
    unfold rsum
    rw [if_pos hS]
    have ha2 : a * 2 % 18446744073709551616 = 0 := by rw [z1]; exact sgn_two _
    by_cases hn : neg6 a = false
    · rw [if_pos hn]; exact ⟨rfl, .inr ⟨ha2, sgn_two _⟩⟩
    · rw [if_neg hn]; exact ⟨rfl, .inr ⟨ha2, sgn_two _⟩⟩
  · obtain ⟨d, hd⟩ : ∃ d : Nat, xpo a + 1074 = d := ⟨(xpo a + 1074).toNat, by omega⟩
    have hS : ssum (neg6 a) (sig a) (xpo a) false 0 (-1074) = sv (neg6 a) (sig a * 2 ^ d) := by
      unfold ssum
      rw [hm, upper_zero, sv_zero, show xpo a - -1074 = (d : Int) by omega, upper_nat, Int.add_zero]
    rw [rsum_is (x := d) ha hfe h0 hS (.inl ⟨rfl, by omega⟩)]
    exact ⟨rfl, .inl rfl⟩
/-- one by one, with all flags -/
def fsumN (mode : Int) (xs : List Nat) : Nat → Nat × Int
  | 0 => (0, 0)
  | k + 1 => ((radd (fsumN mode xs k).1 (lim xs k) mode).1, bits .or .i64 (fsumN mode xs k).2 ((radd (fsumN mode xs k).1 (lim xs k) mode).2 : Int))
theorem fsumN_lt (mode : Int) {xs : List Nat} (hl : Low 18446744073709551616 xs) (k : Nat) : (fsumN mode xs k).1 ≤ 18446744073709551615 := by
  induction k with
  | zero => exact Nat.zero_le _
  | succ k ih => exact radd_lt ih (by have := lim_lt hl (by decide) k; omega)
end Go.Proofs.Ytdcebkhdnhdejaa
