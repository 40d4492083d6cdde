/- Sums in words: plain numbers. No program is named here. -/
import Derived.Test.YtjljmccdlkdgoaaStk
import Derived.Test.YtjljmccdlkdgoaaPaOne
import Derived.Test.YtjljmccdlkdgoaaRndVal
import Derived.Test.YtjljmccdlkdgoaaNum
import Derived.Laws.Bits64
namespace Go.Proofs.Ytjljmccdlkdgoaa

/-- a word shifted down by n, in two words -/
def faHi (m n : Nat) : Nat := if 64 < n then 0 else m / 2 ^ n
def faLo (m n : Nat) : Nat := if 64 < n then 0 else m * 2 ^ (64 - n) % 18446744073709551616
def faMore (m n : Nat) : Bool := decide (64 < n) && decide (m ≠ 0)
theorem fa_words {m n : Nat} (hn : n ≤ 64) : faHi m n * 18446744073709551616 + faLo m n = m * 2 ^ (64 - n) := by
  have e : (18446744073709551616 : Nat) = 2 ^ n * 2 ^ (64 - n) := by
    rw [← Nat.pow_add, show n + (64 - n) = 64 by omega]
  have h1 : m * 2 ^ (64 - n) / 18446744073709551616 = m / 2 ^ n := by
    rw [e]
    exact Nat.mul_div_mul_right _ _ (Nat.two_pow_pos _)
  have h2 := Nat.div_add_mod (m * 2 ^ (64 - n)) 18446744073709551616
  unfold faHi faLo
  rw [if_neg (by omega), if_neg (by omega)]
  omega
theorem fa_lt {m n : Nat} (hm : m < 9007199254740992) : faHi m n < 9007199254740992 ∧ faLo m n < 18446744073709551616 := by
  unfold faHi faLo
  refine ⟨?_, ?_⟩
  · split
    · omega
    · exact Nat.lt_of_le_of_lt (Nat.div_le_self _ _) hm
  · split
    · omega
    · exact Nat.mod_lt _ (by decide)
theorem fa_far {m n : Nat} (h : 64 < n) : faHi m n = 0 ∧ faLo m n = 0 := by
  unfold faHi faLo
  rw [if_pos h, if_pos h]
  exact ⟨rfl, rfl⟩
theorem pow_split {n k : Nat} (h : k ≤ n) : 2 ^ n = 2 ^ k * 2 ^ (n - k) := by
  rw [← Nat.pow_add, show k + (n - k) = n by omega]
set_option maxRecDepth 100000 in
theorem fa_sum {neg : Bool} {mA mB n hi lo : Nat} {xA xB mode : Int} (hx : xA = xB + n) (hb : mB < 9007199254740992) (hf : 64 < n → 4503599627370496 ≤ mA)
    (x1 : -1074 ≤ xB) (x2 : xA ≤ 972) (hN : hi * 18446744073709551616 + lo = mA * 18446744073709551616 + (faHi mB n * 18446744073709551616 + faLo mB n)) :
    rsum neg mA xA neg mB xB mode = if hi * 18446744073709551616 + lo = 0 then (sgn neg, 0) else prnd neg hi lo (xA - 64) (faMore mB n) mode := by
  rw [rsum_like hx]
  by_cases hn : 64 < n
  · have hA := hf hn
    obtain ⟨f1, f2⟩ := fa_far (m := mB) hn
    rw [f1, f2] at hN
    have hNe : mB = 0 → hi * 18446744073709551616 + lo = mA * 2 ^ 64 := by
      intro _
      have h2 : (2 : Nat) ^ 64 = 18446744073709551616 := rfl
      rw [h2]
      rw [Nat.zero_mul, Nat.add_zero] at hN
      exact hN
    have hp : 0 < mA * 2 ^ n := Nat.mul_pos (by omega) (Nat.two_pow_pos _)
    have hp2 : mA * 2 ^ n + mB ≠ 0 := Nat.ne_of_gt (Nat.lt_of_lt_of_le hp (Nat.le_add_right _ _))
    clear hp
    rw [if_neg hp2, if_neg (by omega)]
    by_cases h0 : mB = 0
    · have hm : faMore mB n = false := by unfold faMore; rw [decide_eq_false (by omega : ¬ mB ≠ 0), Bool.and_false]
      replace hNe := hNe h0
      have r1 := rnd_scale (neg := neg) (num := mA) (den := 1) (k := n) (exp := xB) (mode := mode) (by omega) (by decide)
      have r2 := rnd_scale (neg := neg) (num := mA) (den := 1) (k := 64) (exp := xA - 64) (mode := mode) (by omega) (by decide)
      rw [hm, prnd_plain (by omega) (by omega) (by omega), h0, Nat.add_zero, hNe, r1, r2]
      congr 1
      omega
    · have hm : faMore mB n = true := by unfold faMore; rw [decide_eq_true hn, decide_eq_true h0]; rfl
      rw [hm, prnd_more (by omega) (by omega) (by omega)]
      have hk : xA - 11 + 1 ≤ rx (mA * 2048) (xA - 11) := by
        have h1 := rx_ge (mA * 2048) (xA - 11)
        have h2 := nbits_ge (N := mA * 2048) (k := 63) (by omega)
        omega
      have s1 := rnd_stick (neg := neg) (mode := mode) (N := mA * 2048) (j := n - 11) (r := mB) (exp := xA - 11) (by omega) (by omega)
        (Nat.lt_of_lt_of_le hb (show 2 ^ 53 ≤ 2 ^ (n - 11) from Nat.pow_le_pow_right (by decide) (by omega))) hk
      have s2 := rnd_stick (neg := neg) (mode := mode) (N := mA * 2048) (j := 54) (r := 1) (exp := xA - 11) (by omega) (by omega) (by decide) hk
      have e1 : mA * 2 ^ n = mA * 2048 * 2 ^ (n - 11) := by rw [pow_split (show 11 ≤ n by omega), Nat.mul_assoc]
      have e2 : 2 * (hi * 18446744073709551616 + lo) + 1 = mA * 2048 * 2 ^ 54 + 1 := by omega
      rw [e1, e2, show xB = xA - 11 - ((n - 11 : Nat) : Int) by omega, show xA - 64 - 1 = xA - 11 - ((54 : Nat) : Int) by omega, s1, s2]
  · have hw := fa_words (m := mB) (n := n) (by omega)
    have hm : faMore mB n = false := by unfold faMore; rw [decide_eq_false hn]; rfl
    have e : hi * 18446744073709551616 + lo = (mA * 2 ^ n + mB) * 2 ^ (64 - n) := by
      rw [hN, hw, Nat.add_mul, Nat.mul_assoc, ← Nat.pow_add, show n + (64 - n) = 64 by omega]
    have hp : 0 < 2 ^ (64 - n) := Nat.two_pow_pos _
    by_cases h0 : mA * 2 ^ n + mB = 0
    · rw [if_pos h0, if_pos (by rw [e, h0, Nat.zero_mul])]
    · have h1 : hi * 18446744073709551616 + lo ≠ 0 := by
        rw [e]
        exact Nat.mul_ne_zero h0 (by omega)
      rw [if_neg h0, if_neg h1, hm, prnd_plain h1 (by omega) (by omega), e, rnd_scale (by omega) (by decide)]
      congr 1
      omega
set_option maxRecDepth 100000 in
theorem fa_dif {neg other : Bool} {mA mB n hi lo : Nat} {xA xB mode : Int} (hs : neg ≠ other) (hx : xA = xB + n) (hb : mB < 9007199254740992) (hf : 64 < n → 4503599627370496 ≤ mA)
    (x1 : -1074 ≤ xB) (x2 : xA ≤ 972) (hle : mB ≤ mA * 2 ^ n)
    (hN : hi * 18446744073709551616 + lo + (faHi mB n * 18446744073709551616 + faLo mB n) + (if faMore mB n then 1 else 0) = mA * 18446744073709551616) :
    rsum neg mA xA other mB xB mode = if hi * 18446744073709551616 + lo = 0 then (sgn (decide (mode = 4)), 0) else prnd neg hi lo (xA - 64) (faMore mB n) mode := by
  rw [rsum_unlike hx hs hle]
  by_cases hn : 64 < n
  · have hA := hf hn
    obtain ⟨f1, f2⟩ := fa_far (m := mB) hn
    rw [f1, f2] at hN
    have hNe : mB = 0 → hi * 18446744073709551616 + lo = mA * 2 ^ 64 := by
      intro h0
      have hm : faMore mB n = false := by unfold faMore; rw [decide_eq_false (by omega : ¬ mB ≠ 0), Bool.and_false]
      rw [hm, if_neg Bool.false_ne_true] at hN
      have h2 : (2 : Nat) ^ 64 = 18446744073709551616 := rfl
      rw [h2]
      rw [Nat.zero_mul, Nat.add_zero] at hN
      exact hN
    have e1 : mA * 2 ^ n = mA * 2048 * 2 ^ (n - 11) := by rw [pow_split (show 11 ≤ n by omega), Nat.mul_assoc]
    have hc : 9007199254740992 ≤ 2 ^ (n - 11) := show 2 ^ 53 ≤ 2 ^ (n - 11) from Nat.pow_le_pow_right (by decide) (by omega)
    have hz : 2 * 2 ^ (n - 11) ≤ mA * 2048 * 2 ^ (n - 11) := Nat.mul_le_mul_right _ (by omega)
    rw [if_neg (by omega)]
    by_cases h0 : mB = 0
    · have hm : faMore mB n = false := by unfold faMore; rw [decide_eq_false (by omega : ¬ mB ≠ 0), Bool.and_false]
      rw [hm, if_neg Bool.false_ne_true] at hN
      replace hNe := hNe h0
      have r1 := rnd_scale (neg := neg) (num := mA) (den := 1) (k := n) (exp := xB) (mode := mode) (by omega) (by decide)
      have r2 := rnd_scale (neg := neg) (num := mA) (den := 1) (k := 64) (exp := xA - 64) (mode := mode) (by omega) (by decide)
      rw [if_neg (by omega), hm, prnd_plain (by omega) (by omega) (by omega), h0, Nat.sub_zero, hNe, r1, r2]
      congr 1
      omega
    · have hm : faMore mB n = true := by unfold faMore; rw [decide_eq_true hn, decide_eq_true h0]; rfl
      rw [hm, if_pos rfl] at hN
      rw [if_neg (by omega), hm, prnd_more (by omega) (by omega) (by omega)]
      have hk : xA - 11 + 1 ≤ rx (mA * 2048 - 1) (xA - 11) := by
        have h1 := rx_ge (mA * 2048 - 1) (xA - 11)
        have h2 := nbits_ge (N := mA * 2048 - 1) (k := 62) (by omega)
        omega
      have s1 := rnd_stick (neg := neg) (mode := mode) (N := mA * 2048 - 1) (j := n - 11) (r := 2 ^ (n - 11) - mB) (exp := xA - 11) (by omega) (by omega) (by omega) hk
      have s2 := rnd_stick (neg := neg) (mode := mode) (N := mA * 2048 - 1) (j := 54) (r := 18014398509481983) (exp := xA - 11) (by omega) (by omega) (by decide) hk
      have e2 : mA * 2 ^ n - mB = (mA * 2048 - 1) * 2 ^ (n - 11) + (2 ^ (n - 11) - mB) := by
        rw [e1, Nat.sub_mul, Nat.one_mul]
        omega
      have e3 : 2 * (hi * 18446744073709551616 + lo) + 1 = (mA * 2048 - 1) * 2 ^ 54 + 18014398509481983 := by omega
      rw [e2, e3, show xB = xA - 11 - ((n - 11 : Nat) : Int) by omega, show xA - 64 - 1 = xA - 11 - ((54 : Nat) : Int) by omega, s1, s2]
  · have hw := fa_words (m := mB) (n := n) (by omega)
    have hm : faMore mB n = false := by unfold faMore; rw [decide_eq_false hn]; rfl
    rw [hm, if_neg Bool.false_ne_true, hw] at hN
    have e : hi * 18446744073709551616 + lo = (mA * 2 ^ n - mB) * 2 ^ (64 - n) := by
      rw [Nat.sub_mul, Nat.mul_assoc, ← Nat.pow_add, show n + (64 - n) = 64 by omega]
      have h2 : (2 : Nat) ^ 64 = 18446744073709551616 := rfl
      rw [h2]
      clear hle hf hm h2
      obtain ⟨Z, hZ⟩ : ∃ Z, Z = mB * 2 ^ (64 - n) := ⟨_, rfl⟩
      rw [← hZ] at hN ⊢
      rw [Nat.add_zero] at hN
      exact Nat.eq_sub_of_add_eq hN
    have hp : 0 < 2 ^ (64 - n) := Nat.two_pow_pos _
    by_cases h0 : mA * 2 ^ n - mB = 0
    · rw [if_pos h0, if_pos (by rw [e, h0, Nat.zero_mul])]
    · have h1 : hi * 18446744073709551616 + lo ≠ 0 := by
        rw [e]
        exact Nat.mul_ne_zero h0 (by omega)
      rw [if_neg h0, if_neg h1, hm, prnd_plain h1 (by omega) (by omega), e, rnd_scale (by omega) (by decide)]
      congr 1
      omega
set_option maxRecDepth 100000 in
/-- of two finite numbers, the farther one by its bits is so by its significand -/
theorem fa_order {a b : Nat} (ha : fe a ≠ 2047) (hb : fe b ≠ 2047) (h : b % 9223372036854775808 ≤ a % 9223372036854775808) :
    ∃ n : Nat, xpo a = xpo b + n ∧ sig b ≤ sig a * 2 ^ n ∧ (64 < n → 4503599627370496 ≤ sig a) := by
  have a1 := fe_lt a
  have b1 := fe_lt b
  have a2 := ff_lt a
  have b2 := ff_lt b
  have hea : a % 9223372036854775808 = fe a * 4503599627370496 + ff a := by unfold fe ff; omega
  have heb : b % 9223372036854775808 = fe b * 4503599627370496 + ff b := by unfold fe ff; omega
  rw [hea, heb] at h
  unfold xpo sig
  generalize fe a = x at *
  generalize fe b = y at *
  generalize ff a = u at *
  generalize ff b = v at *
  by_cases hy : y = 0
  · subst hy
    rw [if_pos rfl, if_pos rfl]
    by_cases hx : x = 0
    · subst hx
      rw [if_pos rfl, if_pos rfl]
      exact ⟨0, by omega, by omega, by omega⟩
    · rw [if_neg hx, if_neg hx]
      refine ⟨x - 1, by omega, ?_, fun _ => by omega⟩
      have h5 : u + 4503599627370496 ≤ (u + 4503599627370496) * 2 ^ (x - 1) := Nat.le_mul_of_pos_right _ (Nat.two_pow_pos _)
      obtain ⟨Z, hZ⟩ : ∃ Z, Z = (u + 4503599627370496) * 2 ^ (x - 1) := ⟨_, rfl⟩
      rw [← hZ] at h5 ⊢
      clear hZ
      omega
  · rw [if_neg hy, if_neg hy]
    have hx : x ≠ 0 := by omega
    rw [if_neg hx, if_neg hx]
    refine ⟨x - y, by omega, ?_, fun _ => by omega⟩
    by_cases hxy : x = y
    · subst hxy
      rw [Nat.sub_self, Nat.pow_zero]
      omega
    · obtain ⟨k, hk⟩ : ∃ k, x - y = k + 1 := ⟨x - y - 1, by omega⟩
      rw [hk, Nat.pow_succ]
      have h5 : u + 4503599627370496 ≤ (u + 4503599627370496) * 2 ^ k := Nat.le_mul_of_pos_right _ (Nat.two_pow_pos k)
      have h3 : (u + 4503599627370496) * (2 ^ k * 2) = 2 * ((u + 4503599627370496) * 2 ^ k) := by
        rw [← Nat.mul_assoc, Nat.mul_comm _ 2]
      rw [h3]
      obtain ⟨Z, hZ⟩ : ∃ Z, Z = (u + 4503599627370496) * 2 ^ k := ⟨_, rfl⟩
      rw [← hZ] at h5 ⊢
      clear hk h3 hZ
      omega
end Go.Proofs.Ytjljmccdlkdgoaa

/- fadd: zeroSign, lower, take. -/
namespace Go.Proofs.Ytjljmccdlkdgoaa
open Go.RowKit Go.Shelf

set_option maxRecDepth 100000 in
theorem take_words {m hi lo p : Nat} (hp : p ≤ 1) (hm : m < 18446744073709551616) (hh : hi < 18446744073709551616) (hl : lo < 18446744073709551616) (h : hi * 18446744073709551616 + lo + p ≤ m * 18446744073709551616) :
    sub64 m hi (borrow64 0 lo p) * 18446744073709551616 + sub64 0 lo p + (hi * 18446744073709551616 + lo) + p = m * 18446744073709551616 := by
  unfold sub64 borrow64
  split <;> omega
end Go.Proofs.Ytjljmccdlkdgoaa

/- fadd: addFinite. -/
namespace Go.Proofs.Ytjljmccdlkdgoaa
open Go.RowKit Go.Shelf

end Go.Proofs.Ytjljmccdlkdgoaa

/- fadd: what its calls keep. -/
namespace Go.Proofs.Ytjljmccdlkdgoaa
open Go.RowKit Go.Shelf

end Go.Proofs.Ytjljmccdlkdgoaa
