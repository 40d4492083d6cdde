/- Sums in words: plain numbers. No program is named here. -/
import Derived.Test.YtjapilpjahhimaaStk
import Derived.Test.YtjapilpjahhimaaPaOne
import Derived.Test.YtjapilpjahhimaaRndVal
import Derived.Test.YtjapilpjahhimaaNum
import Derived.Laws.Bits64
namespace Go.Proofs.Ytjapilpjahhimaa

/-- a word shifted down by n, in two words -/
def faHi (m n : Nat) : Nat := if 64 < n then 0 else m / 2 ^ n
def faLo (m n : Nat) : Nat := if 64 < n then 0 else m * 2 ^ (64 - n) % 18446744073709551616
def faMore (m n : Nat) : Bool := decide (64 < n) && decide (m ≠ 0)
theorem fa_words {m n : Nat} (hn : n ≤ 64) : faHi m n * 18446744073709551616 + faLo m n = m * 2 ^ (64 - n) := by
  have e : (18446744073709551616 : Nat) = 2 ^ n * 2 ^ (64 - n) := by
    rw [← Nat.pow_add, show n + (64 - n) = 64 by omega]
  have h1 : m * 2 ^ (64 - n) / 18446744073709551616 = m / 2 ^ n := by
    rw [e]
    exact Nat.mul_div_mul_right _ _ (Nat.two_pow_pos _)
  have h2 := Nat.div_add_mod (m * 2 ^ (64 - n)) 18446744073709551616
  unfold faHi faLo
  rw [if_neg (by omega), if_neg (by omega)]
  omega
theorem fa_lt {m n : Nat} (hm : m < 9007199254740992) : faHi m n < 9007199254740992 ∧ faLo m n < 18446744073709551616 := by
  unfold faHi faLo
  refine ⟨?_, ?_⟩
  · split
    · omega
    · exact Nat.lt_of_le_of_lt (Nat.div_le_self _ _) hm
  · split
    · omega
    · exact Nat.mod_lt _ (by decide)
theorem fa_far {m n : Nat} (h : 64 < n) : faHi m n = 0 ∧ faLo m n = 0 := by
  unfold faHi faLo
  rw [if_pos h, if_pos h]
  exact ⟨rfl, rfl⟩
theorem pow_split {n k : Nat} (h : k ≤ n) : 2 ^ n = 2 ^ k * 2 ^ (n - k) := by
  rw [← Nat.pow_add, show k + (n - k) = n by omega]
set_option maxRecDepth 100000 in
theorem fa_sum {neg : Bool} {mA mB n hi lo : Nat} {xA xB mode : Int} (hx : xA = xB + n) (hb : mB < 9007199254740992) (hf : 64 < n → 4503599627370496 ≤ mA)
    (x1 : -1074 ≤ xB) (x2 : xA ≤ 972) (hN : hi * 18446744073709551616 + lo = mA * 18446744073709551616 + (faHi mB n * 18446744073709551616 + faLo mB n)) :
    rsum neg mA xA neg mB xB mode = if hi * 18446744073709551616 + lo = 0 then (sgn neg, 0) else prnd neg hi lo (xA - 64) (faMore mB n) mode := by
  rw [rsum_like hx]
  by_cases hn : 64 < n
  · have hA := hf hn
    obtain ⟨f1, f2⟩ := fa_far (m := mB) hn
    rw [f1, f2] at hN
    have hNe : mB = 0 → hi * 18446744073709551616 + lo = mA * 2 ^ 64 := by
      intro _
      have h2 : (2 : Nat) ^ 64 = 18446744073709551616 := rfl
      rw [h2]
      rw [Nat.zero_mul, Nat.add_zero] at hN
      exact hN
    have hp : 0 < mA * 2 ^ n := Nat.mul_pos (by omega) (Nat.two_pow_pos _)
    have hp2 : mA * 2 ^ n + mB ≠ 0 := Nat.ne_of_gt (Nat.lt_of_lt_of_le hp (Nat.le_add_right _ _))
    clear hp
    rw [if_neg hp2, if_neg (by omega)]
    by_cases h0 : mB = 0
    · have hm : faMore mB n = false := by unfold faMore; rw [decide_eq_false (by omega : ¬ mB ≠ 0), Bool.and_false]
      replace hNe := hNe h0
      have r1 := rnd_scale (neg := neg) (num := mA) (den := 1) (k := n) (exp := xB) (mode := mode) (by omega) (by decide)
      have r2 := rnd_scale (neg := neg) (num := mA) (den := 1) (k := 64) (exp := xA - 64) (mode := mode) (by omega) (by decide)
      rw [hm, prnd_plain (by omega) (by omega) (by omega), h0, Nat.add_zero, hNe, r1, r2]
      congr 1
      omega
    · have hm : faMore mB n = true := by unfold faMore; rw [decide_eq_true hn, decide_eq_true h0]; rfl
      rw [hm, prnd_more (by omega) (by omega) (by omega)]
      have hk : xA - 11 + 1 ≤ rx (mA * 2048) (xA - 11) := by
        have h1 := rx_ge (mA * 2048) (xA - 11)
        have h2 := nbits_ge (N := mA * 2048) (k := 63) (by omega)
        omega
      have s1 := rnd_stick (neg := neg) (mode := mode) (N := mA * 2048) (j := n - 11) (r := mB) (exp := xA - 11) (by omega) (by omega)
        (Nat.lt_of_lt_of_le hb (show 2 ^ 53 ≤ 2 ^ (n - 11) from Nat.pow_le_pow_right (by decide) (by omega))) hk
      have s2 := rnd_stick (neg := neg) (mode := mode) (N := mA * 2048) (j := 54) (r := 1) (exp := xA - 11) (by omega) (by omega) (by decide) hk
      have e1 : mA * 2 ^ n = mA * 2048 * 2 ^ (n - 11) := by rw [pow_split (show 11 ≤ n by omega), Nat.mul_assoc]
      have e2 : 2 * (hi * 18446744073709551616 + lo) + 1 = mA * 2048 * 2 ^ 54 + 1 := by omega
      rw [e1, e2, show xB = xA - 11 - ((n - 11 : Nat) : Int) by omega, show xA - 64 - 1 = xA - 11 - ((54 : Nat) : Int) by omega, s1, s2]
  · have hw := fa_words (m := mB) (n := n) (by omega)
    have hm : faMore mB n = false := by unfold faMore; rw [decide_eq_false hn]; rfl
    have e : hi * 18446744073709551616 + lo = (mA * 2 ^ n + mB) * 2 ^ (64 - n) := by
      rw [hN, hw, Nat.add_mul, Nat.mul_assoc, ← Nat.pow_add, show n + (64 - n) = 64 by omega]
    have hp : 0 < 2 ^ (64 - n) := Nat.two_pow_pos _
    by_cases h0 : mA * 2 ^ n + mB = 0
    · rw [if_pos h0, if_pos (by rw [e, h0, Nat.zero_mul])]
    · have h1 : hi * 18446744073709551616 + lo ≠ 0 := by
        rw [e]
        exact Nat.mul_ne_zero h0 (by omega)
      rw [if_neg h0, if_neg h1, hm, prnd_plain h1 (by omega) (by omega), e, rnd_scale (by omega) (by decide)]
      congr 1
      omega
set_option maxRecDepth 100000 in
theorem fa_dif {neg other : Bool} {mA mB n hi lo : Nat} {xA xB mode : Int} (hs : neg ≠ other) (hx : xA = xB + n) (hb : mB < 9007199254740992) (hf : 64 < n → 4503599627370496 ≤ mA)
    (x1 : -1074 ≤ xB) (x2 : xA ≤ 972) (hle : mB ≤ mA * 2 ^ n)
    (hN : hi * 18446744073709551616 + lo + (faHi mB n * 18446744073709551616 + faLo mB n) + (if faMore mB n then 1 else 0) = mA * 18446744073709551616) :
    rsum neg mA xA other mB xB mode = if hi * 18446744073709551616 + lo = 0 then (sgn (decide (mode = 4)), 0) else prnd neg hi lo (xA - 64) (faMore mB n) mode := by
  rw [rsum_unlike hx hs hle]
  by_cases hn : 64 < n
  · have hA := hf hn
    obtain ⟨f1, f2⟩ := fa_far (m := mB) hn
    rw [f1, f2] at hN
    have hNe : mB = 0 → hi * 18446744073709551616 + lo = mA * 2 ^ 64 := by
      intro h0
      have hm : faMore mB n = false := by unfold faMore; rw [decide_eq_false (by omega : ¬ mB ≠ 0), Bool.and_false]
      rw [hm, if_neg Bool.false_ne_true] at hN
      have h2 : (2 : Nat) ^ 64 = 18446744073709551616 := rfl
      rw [h2]
      rw [Nat.zero_mul, Nat.add_zero] at hN
      exact hN
    have e1 : mA * 2 ^ n = mA * 2048 * 2 ^ (n - 11) := by rw [pow_split (show 11 ≤ n by omega), Nat.mul_assoc]
    have hc : 9007199254740992 ≤ 2 ^ (n - 11) := show 2 ^ 53 ≤ 2 ^ (n - 11) from Nat.pow_le_pow_right (by decide) (by omega)
    have hz : 2 * 2 ^ (n - 11) ≤ mA * 2048 * 2 ^ (n - 11) := Nat.mul_le_mul_right _ (by omega)
    rw [if_neg (by omega)]
    by_cases h0 : mB = 0
    · have hm : faMore mB n = false := by unfold faMore; rw [decide_eq_false (by omega : ¬ mB ≠ 0), Bool.and_false]
      rw [hm, if_neg Bool.false_ne_true] at hN
      replace hNe := hNe h0
      have r1 := rnd_scale (neg := neg) (num := mA) (den := 1) (k := n) (exp := xB) (mode := mode) (by omega) (by decide)
      have r2 := rnd_scale (neg := neg) (num := mA) (den := 1) (k := 64) (exp := xA - 64) (mode := mode) (by omega) (by decide)
      rw [if_neg (by omega), hm, prnd_plain (by omega) (by omega) (by omega), h0, Nat.sub_zero, hNe, r1, r2]
      congr 1
      omega
    · have hm : faMore mB n = true := by unfold faMore; rw [decide_eq_true hn, decide_eq_true h0]; rfl
      rw [hm, if_pos rfl] at hN
      rw [if_neg (by omega), hm, prnd_more (by omega) (by omega) (by omega)]
      have hk : xA - 11 + 1 ≤ rx (mA * 2048 - 1) (xA - 11) := by
        have h1 := rx_ge (mA * 2048 - 1) (xA - 11)
        have h2 := nbits_ge (N := mA * 2048 - 1) (k := 62) (by omega)
        omega
      have s1 := rnd_stick (neg := neg) (mode := mode) (N := mA * 2048 - 1) (j := n - 11) (r := 2 ^ (n - 11) - mB) (exp := xA - 11) (by omega) (by omega) (by omega) hk
      have s2 := rnd_stick (neg := neg) (mode := mode) (N := mA * 2048 - 1) (j := 54) (r := 18014398509481983) (exp := xA - 11) (by omega) (by omega) (by decide) hk
      have e2 : mA * 2 ^ n - mB = (mA * 2048 - 1) * 2 ^ (n - 11) + (2 ^ (n - 11) - mB) := by
        rw [e1, Nat.sub_mul, Nat.one_mul]
        omega
      have e3 : 2 * (hi * 18446744073709551616 + lo) + 1 = (mA * 2048 - 1) * 2 ^ 54 + 18014398509481983 := by omega
      rw [e2, e3, show xB = xA - 11 - ((n - 11 : Nat) : Int) by omega, show xA - 64 - 1 = xA - 11 - ((54 : Nat) : Int) by omega, s1, s2]
  · have hw := fa_words (m := mB) (n := n) (by omega)
    have hm : faMore mB n = false := by unfold faMore; rw [decide_eq_false hn]; rfl
    rw [hm, if_neg Bool.false_ne_true, hw] at hN
    have e : hi * 18446744073709551616 + lo = (mA * 2 ^ n - mB) * 2 ^ (64 - n) := by
      rw [Nat.sub_mul, Nat.mul_assoc, ← Nat.pow_add, show n + (64 - n) = 64 by omega]
      have h2 : (2 : Nat) ^ 64 = 18446744073709551616 := rfl
      rw [h2]
      clear hle hf hm h2
      obtain ⟨Z, hZ⟩ : ∃ Z, Z = mB * 2 ^ (64 - n) := ⟨_, rfl⟩
      rw [← hZ] at hN ⊢
      rw [Nat.add_zero] at hN
      exact Nat.eq_sub_of_add_eq hN
    have hp : 0 < 2 ^ (64 - n) := Nat.two_pow_pos _
    by_cases h0 : mA * 2 ^ n - mB = 0
    · rw [if_pos h0, if_pos (by rw [e, h0, Nat.zero_mul])]
    · have h1 : hi * 18446744073709551616 + lo ≠ 0 := by
        rw [e]
        exact Nat.mul_ne_zero h0 (by omega)
      rw [if_neg h0, if_neg h1, hm, prnd_plain h1 (by omega) (by omega), e, rnd_scale (by omega) (by decide)]
      congr 1
      omega
set_option maxRecDepth 100000 in
/-- of two finite numbers, the farther one by its bits is so by its significand -/
theorem fa_order {a b : Nat} (ha : fe a ≠ 2047) (hb : fe b ≠ 2047) (h : b % 9223372036854775808 ≤ a % 9223372036854775808) :
    ∃ n : Nat, xpo a = xpo b + n ∧ sig b ≤ sig a * 2 ^ n ∧ (64 < n → 4503599627370496 ≤ sig a) := by
  have a1 := fe_lt a
  have b1 := fe_lt b
  have a2 := ff_lt a
  have b2 := ff_lt b
  have hea : a % 9223372036854775808 = fe a * 4503599627370496 + ff a := by unfold fe ff; omega
  have heb : b % 9223372036854775808 = fe b * 4503599627370496 + ff b := by unfold fe ff; omega
  rw [hea, heb] at h
  unfold xpo sig
  generalize fe a = x at *
  generalize fe b = y at *
  generalize ff a = u at *
  generalize ff b = v at *
  by_cases hy : y = 0
  · subst hy
    rw [if_pos rfl, if_pos rfl]
    by_cases hx : x = 0
    · subst hx
      rw [if_pos rfl, if_pos rfl]
      exact ⟨0, by omega, by omega, by omega⟩
    · rw [if_neg hx, if_neg hx]
      refine ⟨x - 1, by omega, ?_, fun _ => by omega⟩
      have h5 : u + 4503599627370496 ≤ (u + 4503599627370496) * 2 ^ (x - 1) := Nat.le_mul_of_pos_right _ (Nat.two_pow_pos _)
      obtain ⟨Z, hZ⟩ : ∃ Z, Z = (u + 4503599627370496) * 2 ^ (x - 1) := ⟨_, rfl⟩
      rw [← hZ] at h5 ⊢
      clear hZ
      omega
  · rw [if_neg hy, if_neg hy]
    have hx : x ≠ 0 := by omega
    rw [if_neg hx, if_neg hx]
    refine ⟨x - y, by omega, ?_, fun _ => by omega⟩
    by_cases hxy : x = y
    · subst hxy
      rw [Nat.sub_self, Nat.pow_zero]
      omega
    · obtain ⟨k, hk⟩ : ∃ k, x - y = k + 1 := ⟨x - y - 1, by omega⟩
      rw [hk, Nat.pow_succ]
      have h5 : u + 4503599627370496 ≤ (u + 4503599627370496) * 2 ^ k := Nat.le_mul_of_pos_right _ (Nat.two_pow_pos k)
      have h3 : (u + 4503599627370496) * (2 ^ k * 2) = 2 * ((u + 4503599627370496) * 2 ^ k) := by
        rw [← Nat.mul_assoc, Nat.mul_comm _ 2]
      rw [h3]
      obtain ⟨Z, hZ⟩ : ∃ Z, Z = (u + 4503599627370496) * 2 ^ k := ⟨_, rfl⟩
      rw [← hZ] at h5 ⊢
      clear hk h3 hZ
      omega
end Go.Proofs.Ytjapilpjahhimaa

/- fadd: zeroSign, lower, take. -/
namespace Go.Proofs.Ytjapilpjahhimaa
open Go.RowKit Go.Shelf

theorem fadd_sign {s t : Bool} {mode : Int} {w : World} :
    Calls Try.prog 110 #[.bool s, .bool t, .int .i64 mode] w fun e W' => e = .returned (.bool (if s = t then s else decide (mode = 4))) ∧ w = W' := by
  have hm : (mode == 4) = decide (mode = 4) := by
    by_cases h : mode = 4
    · subst h; rfl
    · rw [decide_eq_false h]; exact beq_eq_false_iff_ne.2 h
  generalize decide (mode = 4) = d at *
  cases s <;> cases t
  all_goals
    go_enter Try.func110, Try.ntmps110
    go_wp2
    go_ret
    exact ⟨rfl, rfl⟩
set_option maxRecDepth 100000 in
theorem fadd_lower {m n : Nat} {w : World} (hm : m < 9007199254740992) (hn : n ≤ 3000) :
    Calls Try.prog 108 #[.int .u64 (m : Int), .int .i64 (n : Int)] w fun e W' => e = .returned (.tuple #[.int .u64 (faHi m n : Int), .int .u64 (faLo m n : Int), .bool (faMore m n)]) ∧ Below w.heap.size w W' := by
  have hm' : (m : Int) ≤ 9007199254740991 := by omega
  have hn' : (n : Int) ≤ 3000 := by omega
  by_cases h : 64 < n
  · obtain ⟨f1, f2⟩ := fa_far (m := m) h
    have hmo : faMore m n = ((m : Int) != 0) := by
      unfold faMore
      rw [decide_eq_true h, Bool.true_and]
      by_cases h0 : m = 0
      · subst h0; rfl
      · rw [decide_eq_true h0]
        have : ((m : Int) == 0) = false := beq_eq_false_iff_ne.2 (by omega)
        rw [bne, this]; rfl
    rw [f1, f2, hmo]
    have d1 : decide ((64 : Int) < (n : Int)) = true := decide_eq_true (by omega)
    clear h f1 f2 hmo hm hn
    go_enter Try.func108, Try.ntmps108
    go_wp2
    go_ret3
    exact ⟨rfl, Below.refl _ _⟩
  · have d1 : decide ((64 : Int) < (n : Int)) = false := decide_eq_false (by omega)
    have s1 := shr_any (x := m) (by omega) n
    have s2 := shl_any m (64 - n)
    have hhi : faHi m n = m / 2 ^ n := by unfold faHi; rw [if_neg h]
    have hlo : faLo m n = m * 2 ^ (64 - n) % 18446744073709551616 := by unfold faLo; rw [if_neg h]
    have hmo : faMore m n = false := by unfold faMore; rw [decide_eq_false h]; rfl
    have z1 : (64 : Int) - (n : Int) = ((64 - n : Nat) : Int) := by omega
    have hk : ((64 - n : Nat) : Int) ≤ 64 := by omega
    rw [Nat.min_eq_left (by omega)] at s1
    rw [hhi, hlo, hmo]
    clear hhi hlo hmo
    have h1 : m / 2 ^ n ≤ 18446744073709551615 := Nat.le_trans (Nat.div_le_self _ _) (by omega)
    have h2 : m * 2 ^ (64 - n) % 18446744073709551616 ≤ 18446744073709551615 := by omega
    generalize m * 2 ^ (64 - n) % 18446744073709551616 = L at *
    generalize m / 2 ^ n = H at *
    generalize 64 - n = k at *
    clear h hm hn
    go_enter Try.func108, Try.ntmps108
    go_wp2
    go_quiet (fail)
    go_wp2
    go_ret3
    exact ⟨rfl, below_drewN _ _ _⟩
set_option maxRecDepth 100000 in
theorem take_words {m hi lo p : Nat} (hp : p ≤ 1) (hm : m < 18446744073709551616) (hh : hi < 18446744073709551616) (hl : lo < 18446744073709551616) (h : hi * 18446744073709551616 + lo + p ≤ m * 18446744073709551616) :
    sub64 m hi (borrow64 0 lo p) * 18446744073709551616 + sub64 0 lo p + (hi * 18446744073709551616 + lo) + p = m * 18446744073709551616 := by
  unfold sub64 borrow64
  split <;> omega
set_option maxRecDepth 100000 in
theorem fadd_take {m hi lo : Nat} {more : Bool} {w : World} (hm : m < 18446744073709551616) (hh : hi < 18446744073709551616) (hl : lo < 18446744073709551616) (h : hi * 18446744073709551616 + lo + (if more then 1 else 0) ≤ m * 18446744073709551616) :
    Calls Try.prog 109 #[.int .u64 (m : Int), .int .u64 (hi : Int), .int .u64 (lo : Int), .bool more] w fun e W' => ∃ H L : Nat, e = .returned (.tuple #[.int .u64 (H : Int), .int .u64 (L : Int)]) ∧
      H ≤ 18446744073709551615 ∧ L ≤ 18446744073709551615 ∧ H * 18446744073709551616 + L + (hi * 18446744073709551616 + lo) + (if more then 1 else 0) = m * 18446744073709551616 ∧ w = W' := by
  obtain ⟨p, hp⟩ : ∃ p : Nat, (if more then 1 else 0) = p := ⟨_, rfl⟩
  have hpd : p ≤ 1 := by rw [← hp]; split <;> omega
  rw [hp] at h ⊢
  have hw := take_words (p := p) hpd hm hh hl h
  have k1 : sub64 0 lo p ≤ 18446744073709551615 := by unfold sub64; omega
  have k2 : sub64 m hi (borrow64 0 lo p) ≤ 18446744073709551615 := by unfold sub64; omega
  have hb : borrow64 0 lo p ≤ 1 := by unfold borrow64; split <;> omega
  have r1 : ∀ u : World, (callFunc 123 #[.int .u64 0, .int .u64 (lo : Int), .int .u64 (p : Int)]).run Try.prog u = .ok (.value (.tuple #[.int .u64 (sub64 0 lo p : Int), .int .u64 (borrow64 0 lo p : Int)])) u := sub64_run 0 lo p hpd
  have r2 : ∀ u : World, (callFunc 123 #[.int .u64 (m : Int), .int .u64 (hi : Int), .int .u64 (borrow64 0 lo p : Int)]).run Try.prog u = .ok (.value (.tuple #[.int .u64 (sub64 m hi (borrow64 0 lo p) : Int), .int .u64 (borrow64 m hi (borrow64 0 lo p) : Int)])) u := sub64_run m hi _ hb
  have hfn : Fence.wide.fn 123 := trivial
  generalize sub64 m hi (borrow64 0 lo p) = H at *
  generalize borrow64 m hi (borrow64 0 lo p) = B2 at *
  generalize sub64 0 lo p = L at *
  generalize borrow64 0 lo p = B1 at *
  have HW := Lib.hid hw
  have HP : Hid (p = (if more then 1 else 0)) := Lib.hid hp.symm
  clear hw h hm hh hl hb hpd hp
  cases more
  · have hpi : (p : Int) = 0 := by
      have h0 : p = 0 := by rw [HP.out]; rfl
      rw [h0]; rfl
    rw [hpi] at r1
    clear hpi HP
    go_enter Try.func109, Try.ntmps109
    go_wp2
    go_ret2
    exact ⟨H, L, rfl, k2, k1, HW.out, rfl⟩
  · have hpi : (p : Int) = 1 := by
      have h0 : p = 1 := by rw [HP.out]; rfl
      rw [h0]; rfl
    rw [hpi] at r1
    clear hpi HP
    go_enter Try.func109, Try.ntmps109
    go_wp2
    go_ret2
    exact ⟨H, L, rfl, k2, k1, HW.out, rfl⟩
end Go.Proofs.Ytjapilpjahhimaa

/- fadd: addFinite. -/
namespace Go.Proofs.Ytjapilpjahhimaa
open Go.RowKit Go.Shelf

set_option maxRecDepth 100000 in
set_option maxHeartbeats 4000000 in
theorem fadd_fin {a b : Nat} {mode : Int} {w : World} (ha : (a : Int) ≤ 18446744073709551615) (hb : (b : Int) ≤ 18446744073709551615) (fa : fe a ≠ 2047) (fb : fe b ≠ 2047) (hle : b % 9223372036854775808 ≤ a % 9223372036854775808) :
    Calls Try.prog 94 #[.int .u64 (a : Int), .int .u64 (b : Int), .int .i64 mode] w fun e W' => e = .returned (.tuple #[.int .u64 ((rsum (neg6 a) (sig a) (xpo a) (neg6 b) (sig b) (xpo b) mode).1 : Int), .int .i64 ((rsum (neg6 a) (sig a) (xpo a) (neg6 b) (sig b) (xpo b) mode).2 : Int)]) ∧ Below w.heap.size w W' := by
  have hA := psplit_fin1 (w := w) ha fa
  have hB := psplit_fin1 (w := w) hb fb
  obtain ⟨n, hn, hm, hf⟩ := fa_order fa fb hle
  have xa := xpo_range06 a
  have xb := xpo_range06 b
  have sa := (sig_fits fa).1.2.1
  have sb := (sig_fits fb).1.2.1
  obtain ⟨P, hP⟩ : ∃ P, P = rsum (neg6 a) (sig a) (xpo a) (neg6 b) (sig b) (xpo b) mode := ⟨_, rfl⟩
  rw [← hP]
  clear ha hb fa fb hle
  generalize sig a = mA at *
  generalize sig b = mB at *
  generalize xpo a = xA at *
  generalize xpo b = xB at *
  generalize neg6 a = sA at *
  generalize neg6 b = sB at *
  have z1 : xA - xB = (n : Int) := by omega
  have hlow := fun u => fadd_lower (m := mB) (n := n) (w := u) sb (by omega)
  obtain ⟨l1, l2⟩ := fa_lt (n := n) sb
  have hz := fun (u : World) => fadd_sign (s := sA) (t := sB) (mode := mode) (w := u)
  have hpz := fun (s : Bool) (u : World) => pzero1 s u
  have x1 : -1074 ≤ xA := xa.1
  have x2 : xA ≤ 972 := xa.2
  have x3 : -1074 ≤ xB := xb.1
  have x4 : xB ≤ 972 := xb.2
  by_cases hs : sA = sB
  · subst hs
    have hsum := fun {hi lo : Nat} => fa_sum (neg := sA) (mA := mA) (mB := mB) (n := n) (hi := hi) (lo := lo) (xA := xA) (xB := xB) (mode := mode) hn sb hf x3 x2
    rw [if_pos rfl] at hz
    generalize faHi mB n = H at *
    generalize faLo mB n = L at *
    generalize faMore mB n = more at *
    have h2 := hsum (hi := H + mA) (lo := L) (by omega)
    rw [← hP] at h2
    have hround := fun u => pround (neg := sA) (more := more) (hi := H + mA) (lo := L) (exp := xA - 64) (mode := mode) (w := u) (by omega) (by omega) (by omega) (by omega)
    clear hsum hn hm hf hP
    obtain ⟨K, hK⟩ : ∃ K, K = H + mA := ⟨_, rfl⟩
    have hKi : (H : Int) + (mA : Int) = (K : Int) := by omega
    rw [← hK] at h2 hround
    have hKl : (K : Int) ≤ 18014398509481984 := by omega
    have hLl : (L : Int) ≤ 18446744073709551615 := by omega
    have hbs : (sA == sA) = true := by cases sA <;> rfl
    clear hK
    by_cases k0 : K = 0
    · by_cases k1 : L = 0
      · subst k0 k1
        rw [if_pos (by rw [Nat.zero_mul])] at h2
        subst h2
        clear l1 l2 sa sb xa xb hround
        go_enter Try.func94, Try.ntmps94
        go_wp2_with fail
        refine hA.mono ?_
        rintro e w1 ⟨rfl, rfl⟩
        clear hA
        go_wp2_with fail
        refine hB.mono ?_
        rintro e w1 ⟨rfl, rfl⟩
        clear hB
        go_wp2_with fail
        refine (hlow _).mono ?_
        rintro e w1 ⟨rfl, b1⟩
        clear hlow
        go_wp2_with fail
        refine (hz _).mono ?_
        rintro e w2 ⟨rfl, rfl⟩
        go_wp2_with fail
        refine (hpz _ _).mono ?_
        rintro e w2 ⟨rfl, rfl⟩
        go_wp2
        go_ret2
        exact ⟨rfl, b1⟩
      · have d0 : ((L : Int) == 0) = false := beq_eq_false_iff_ne.2 (by omega)
        subst k0
        rw [if_neg (by rw [Nat.zero_mul, Nat.zero_add]; exact k1)] at h2
        subst h2
        clear l1 l2 sa sb xa xb k1
        generalize prnd sA 0 L (xA - 64) more mode = P at *
        go_enter Try.func94, Try.ntmps94
        go_wp2_with fail
        refine hA.mono ?_
        rintro e w1 ⟨rfl, rfl⟩
        clear hA
        go_wp2_with fail
        refine hB.mono ?_
        rintro e w1 ⟨rfl, rfl⟩
        clear hB
        go_wp2_with fail
        refine (hlow _).mono ?_
        rintro e w1 ⟨rfl, b1⟩
        clear hlow
        go_wp2_with fail
        refine (hround _).mono ?_
        rintro e w2 ⟨rfl, b2⟩
        go_wp2
        go_ret2
        exact ⟨rfl, below_both b1 b2⟩
    · have d0 : ((K : Int) == 0) = false := beq_eq_false_iff_ne.2 (by omega)
      have hne : ¬ K * 18446744073709551616 + L = 0 := by
        have := Nat.le_mul_of_pos_right K (show 0 < 18446744073709551616 by decide)
        omega
      rw [if_neg hne] at h2
      subst h2
      clear hne l1 l2 sa sb xa xb k0
      generalize prnd sA K L (xA - 64) more mode = P at *
      go_enter Try.func94, Try.ntmps94
      go_wp2_with fail
      refine hA.mono ?_
      rintro e w1 ⟨rfl, rfl⟩
      clear hA
      go_wp2_with fail
      refine hB.mono ?_
      rintro e w1 ⟨rfl, rfl⟩
      clear hB
      go_wp2_with fail
      refine (hlow _).mono ?_
      rintro e w1 ⟨rfl, b1⟩
      clear hlow
      go_wp2_with fail
      refine (hround _).mono ?_
      rintro e w2 ⟨rfl, b2⟩
      go_wp2
      go_ret2
      exact ⟨rfl, below_both b1 b2⟩
  · have hdif := fun {hi lo : Nat} => fa_dif (neg := sA) (other := sB) (mA := mA) (mB := mB) (n := n) (hi := hi) (lo := lo) (xA := xA) (xB := xB) (mode := mode) hs hn sb hf x3 x2 hm
    have hbs : (sA == sB) = false := by cases sA <;> cases sB <;> first | rfl | exact absurd rfl hs
    rw [if_neg hs] at hz
    have hroom : faHi mB n * 18446744073709551616 + faLo mB n + (if faMore mB n then 1 else 0) ≤ mA * 18446744073709551616 := by
      by_cases hnn : 64 < n
      · obtain ⟨f1, f2⟩ := fa_far (m := mB) hnn
        have h8 := hf hnn
        rw [f1, f2, Nat.zero_mul, Nat.zero_add]
        have h7 : mA ≤ mA * 18446744073709551616 := Nat.le_mul_of_pos_right _ (by decide)
        exact Nat.le_trans (by split <;> omega) h7
      · have hmo : faMore mB n = false := by unfold faMore; rw [decide_eq_false hnn]; rfl
        rw [hmo, fa_words (by omega), if_neg Bool.false_ne_true, Nat.add_zero]
        have h5 := Nat.mul_le_mul_right (2 ^ (64 - n)) hm
        rw [Nat.mul_assoc, ← Nat.pow_add, show n + (64 - n) = 64 by omega] at h5
        exact h5
    generalize faHi mB n = H at *
    generalize faLo mB n = L at *
    generalize faMore mB n = more at *
    have htk := fun u => fadd_take (m := mA) (hi := H) (lo := L) (more := more) (w := u) (by omega) (by omega) l2 hroom
    have hround := fun (hi lo : Nat) (h1 : hi ≤ 18446744073709551615) (h2 : lo ≤ 18446744073709551615) u => pround (neg := sA) (more := more) (hi := hi) (lo := lo) (exp := xA - 64) (mode := mode) (w := u) (by omega) (by omega) (by omega) (by omega)
    have hHl : (H : Int) ≤ 18446744073709551615 := by omega
    have hLl : (L : Int) ≤ 18446744073709551615 := by omega
    have hfin : ∀ {K J : Nat}, K * 18446744073709551616 + J + (H * 18446744073709551616 + L) + (if more then 1 else 0) = mA * 18446744073709551616 → P = if K * 18446744073709551616 + J = 0 then (sgn (decide (mode = 4)), 0) else prnd sA K J (xA - 64) more mode := fun h => hP.trans (hdif h)
    clear hdif hn hm hf hP hs hroom l1 l2 sa sb xa xb
    go_enter Try.func94, Try.ntmps94
    go_wp2_with fail
    refine hA.mono ?_
    rintro e w1 ⟨rfl, rfl⟩
    clear hA
    go_wp2_with fail
    refine hB.mono ?_
    rintro e w1 ⟨rfl, rfl⟩
    clear hB
    go_wp2_with fail
    refine (hlow _).mono ?_
    rintro e w1 ⟨rfl, b1⟩
    clear hlow
    go_wp2_with fail
    refine (htk _).mono ?_
    rintro e w2 ⟨K, J, rfl, k1, k2, k3, rfl⟩
    clear htk
    have h2 := hfin k3
    replace hround := hround K J k1 k2
    have hKl : (K : Int) ≤ 18446744073709551615 := by omega
    have hJl : (J : Int) ≤ 18446744073709551615 := by omega
    clear hfin k3 hHl hLl k1 k2
    by_cases k0 : K = 0
    · by_cases k1 : J = 0
      · subst k0 k1
        rw [if_pos (by rw [Nat.zero_mul])] at h2
        clear hround
        go_wp2_with fail
        refine (hz _).mono ?_
        rintro e w2 ⟨rfl, rfl⟩
        go_wp2_with fail
        refine (hpz _ _).mono ?_
        rintro e w2 ⟨rfl, rfl⟩
        go_wp2
        go_ret2
        exact ⟨by rw [h2]; rfl, b1⟩
      · have d0 : ((J : Int) == 0) = false := beq_eq_false_iff_ne.2 (by omega)
        subst k0
        rw [if_neg (by rw [Nat.zero_mul, Nat.zero_add]; exact k1)] at h2
        rw [← h2] at hround
        clear k1 h2
        go_wp2_with fail
        refine (hround _).mono ?_
        rintro e w2 ⟨rfl, b2⟩
        go_wp2
        go_ret2
        exact ⟨rfl, below_both b1 b2⟩
    · have d0 : ((K : Int) == 0) = false := beq_eq_false_iff_ne.2 (by omega)
      have hne : ¬ K * 18446744073709551616 + J = 0 := by
        have := Nat.le_mul_of_pos_right K (show 0 < 18446744073709551616 by decide)
        omega
      rw [if_neg hne] at h2
      rw [← h2] at hround
      clear k0 h2 hne
      go_wp2_with fail
      refine (hround _).mono ?_
      rintro e w2 ⟨rfl, b2⟩
      go_wp2
      go_ret2
      exact ⟨rfl, below_both b1 b2⟩
end Go.Proofs.Ytjapilpjahhimaa

/- fadd: what its calls keep. -/
namespace Go.Proofs.Ytjapilpjahhimaa
open Go.RowKit Go.Shelf

set_option maxRecDepth 100000 in
set_option maxHeartbeats 4000000 in
theorem fadd_add {a b : Nat} {mode : Int} {w : World} (ha : (a : Int) ≤ 18446744073709551615) (hb : (b : Int) ≤ 18446744073709551615) :
    Calls Try.prog 70 #[.int .u64 (a : Int), .int .u64 (b : Int), .int .i64 mode] w fun e W' => e = .returned (.tuple #[.int .u64 ((radd a b mode).1 : Int), .int .i64 ((radd a b mode).2 : Int)]) ∧ Below w.heap.size w W' := by
  have hA := fun u => pclass1 (w := u) ha
  have hB := fun u => pclass1 (w := u) hb
  have n1 := not_top (a := a) (by omega)
  have n2 := not_top (a := b) (by omega)
  have ca3 := cls_le a
  have cb3 := cls_le b
  have hf1 : cls a ≤ 1 → cls b ≤ 1 → b % 9223372036854775808 ≤ a % 9223372036854775808 → ∀ u, Calls Try.prog 94 #[.int .u64 (a : Int), .int .u64 (b : Int), .int .i64 mode] u fun e W' => e = .returned (.tuple #[.int .u64 ((radd a b mode).1 : Int), .int .i64 ((radd a b mode).2 : Int)]) ∧ Below u.heap.size u W' := by
    intro h1 h2 h3 u
    have h := fadd_fin (mode := mode) (w := u) ha hb (cls_fin.1 h1) (cls_fin.1 h2) h3
    have e : radd a b mode = rsum (neg6 a) (sig a) (xpo a) (neg6 b) (sig b) (xpo b) mode := by
      unfold radd
      rw [if_neg (by omega), if_neg (by omega), if_neg (by omega), if_neg (by omega)]
    rwa [← e] at h
  have hf2 : cls a ≤ 1 → cls b ≤ 1 → a % 9223372036854775808 ≤ b % 9223372036854775808 → ∀ u, Calls Try.prog 94 #[.int .u64 (b : Int), .int .u64 (a : Int), .int .i64 mode] u fun e W' => e = .returned (.tuple #[.int .u64 ((radd a b mode).1 : Int), .int .i64 ((radd a b mode).2 : Int)]) ∧ Below u.heap.size u W' := by
    intro h1 h2 h3 u
    have h := fadd_fin (mode := mode) (w := u) hb ha (cls_fin.1 h2) (cls_fin.1 h1) h3
    have e : radd a b mode = rsum (neg6 b) (sig b) (xpo b) (neg6 a) (sig a) (xpo a) mode := by
      unfold radd
      rw [if_neg (by omega), if_neg (by omega), if_neg (by omega), if_neg (by omega), rsum_comm]
    rwa [← e] at h
  obtain ⟨P, hP⟩ : ∃ P, P = radd a b mode := ⟨_, rfl⟩
  rw [← hP] at hf1 hf2 ⊢
  unfold radd at hP
  have hz1 : a % 9223372036854775808 ≤ 9223372036854775807 := by omega
  have hz2 : b % 9223372036854775808 ≤ 9223372036854775807 := by omega
  generalize a % 9223372036854775808 = z1 at *
  generalize b % 9223372036854775808 = z2 at *
  generalize cls a = ca at *
  generalize cls b = cb at *
  by_cases a3 : ca = 3
  · subst a3
    rw [if_pos (.inl rfl)] at hP
    subst hP
    clear n1 n2 hf1 hf2
    have cb0 : cb = 0 ∨ cb = 1 ∨ cb = 2 ∨ cb = 3 := by omega
    rcases cb0 with rfl | rfl | rfl | rfl
    all_goals
      go_enter Try.func70, Try.ntmps70
      go_wp2_with fail
      refine (hA _).mono ?_
      rintro e w1 ⟨rfl, rfl⟩
      clear hA
      go_wp2_with fail
      refine (hB _).mono ?_
      rintro e w1 ⟨rfl, rfl⟩
      clear hB
      go_wp2
      go_ret2
      exact ⟨rfl, Below.refl _ _⟩
  by_cases b3 : cb = 3
  · subst b3
    rw [if_pos (.inr rfl)] at hP
    subst hP
    clear n1 n2 hf1 hf2
    have ca0 : ca = 0 ∨ ca = 1 ∨ ca = 2 := by omega
    rcases ca0 with rfl | rfl | rfl
    all_goals
      go_enter Try.func70, Try.ntmps70
      go_wp2_with fail
      refine (hA _).mono ?_
      rintro e w1 ⟨rfl, rfl⟩
      clear hA
      go_wp2_with fail
      refine (hB _).mono ?_
      rintro e w1 ⟨rfl, rfl⟩
      clear hB
      go_wp2
      go_ret2
      exact ⟨rfl, Below.refl _ _⟩
  rw [if_neg (by omega)] at hP
  by_cases a2 : ca = 2
  · subst a2
    clear n1 n2 hf1 hf2
    by_cases b2 : cb = 2
    · subst b2
      by_cases hab : a = b
      · subst hab
        rw [if_neg (by simp), if_pos rfl] at hP
        subst hP
        have d1 : ((a : Int) != (a : Int)) = false := by simp
        go_enter Try.func70, Try.ntmps70
        go_wp2_with fail
        refine (hA _).mono ?_
        rintro e w1 ⟨rfl, rfl⟩
        clear hA
        go_wp2_with fail
        refine (hB _).mono ?_
        rintro e w1 ⟨rfl, rfl⟩
        clear hB
        go_wp2
        go_ret2
        exact ⟨rfl, Below.refl _ _⟩
      · rw [if_pos ⟨rfl, rfl, hab⟩] at hP
        subst hP
        have d0 : ((a : Int) == (b : Int)) = false := beq_eq_false_iff_ne.2 (by omega)
        have d1 : ((a : Int) != (b : Int)) = true := by rw [bne, d0]; rfl
        clear hab
        go_enter Try.func70, Try.ntmps70
        go_wp2_with fail
        refine (hA _).mono ?_
        rintro e w1 ⟨rfl, rfl⟩
        clear hA
        go_wp2_with fail
        refine (hB _).mono ?_
        rintro e w1 ⟨rfl, rfl⟩
        clear hB
        go_wp2
        go_ret2
        exact ⟨rfl, Below.refl _ _⟩
    · rw [if_neg (by omega), if_pos rfl] at hP
      subst hP
      have cb0 : cb = 0 ∨ cb = 1 := by omega
      rcases cb0 with rfl | rfl
      all_goals
        go_enter Try.func70, Try.ntmps70
        go_wp2_with fail
        refine (hA _).mono ?_
        rintro e w1 ⟨rfl, rfl⟩
        clear hA
        go_wp2_with fail
        refine (hB _).mono ?_
        rintro e w1 ⟨rfl, rfl⟩
        clear hB
        go_wp2
        go_ret2
        exact ⟨rfl, Below.refl _ _⟩
  by_cases b2 : cb = 2
  · subst b2
    rw [if_neg (by omega), if_neg (by omega), if_pos rfl] at hP
    subst hP
    clear n1 n2 hf1 hf2
    have ca0 : ca = 0 ∨ ca = 1 := by omega
    rcases ca0 with rfl | rfl
    all_goals
      go_enter Try.func70, Try.ntmps70
      go_wp2_with fail
      refine (hA _).mono ?_
      rintro e w1 ⟨rfl, rfl⟩
      clear hA
      go_wp2_with fail
      refine (hB _).mono ?_
      rintro e w1 ⟨rfl, rfl⟩
      clear hB
      go_wp2
      go_ret2
      exact ⟨rfl, Below.refl _ _⟩
  · clear hP
    have da3 : ((ca : Int) == 3) = false := beq_eq_false_iff_ne.2 (by omega)
    have db3 : ((cb : Int) == 3) = false := beq_eq_false_iff_ne.2 (by omega)
    have da2 : ((ca : Int) == 2) = false := beq_eq_false_iff_ne.2 (by omega)
    have db2 : ((cb : Int) == 2) = false := beq_eq_false_iff_ne.2 (by omega)
    replace hf1 := hf1 (by omega) (by omega)
    replace hf2 := hf2 (by omega) (by omega)
    obtain ⟨y1, hy1⟩ : ∃ y1 : Int, (z1 : Int) = y1 := ⟨_, rfl⟩
    obtain ⟨y2, hy2⟩ : ∃ y2 : Int, (z2 : Int) = y2 := ⟨_, rfl⟩
    have y1l : y1 ≤ 9223372036854775807 := by omega
    have y2l : y2 ≤ 9223372036854775807 := by omega
    have y1g : 0 ≤ y1 := by omega
    have y2g : 0 ≤ y2 := by omega
    rw [hy1] at n1
    rw [hy2] at n2
    by_cases hlt : z1 < z2
    · have d1 : decide (y1 < y2) = true := decide_eq_true (by omega)
      replace hf2 := hf2 (by omega)
      clear hy1 hy2 hf1 hlt a3 b3 a2 b2 hz1 hz2 ca3 cb3
      go_enter Try.func70, Try.ntmps70
      go_wp2_with fail
      refine (hA _).mono ?_
      rintro e w1 ⟨rfl, rfl⟩
      clear hA
      go_wp2_with fail
      refine (hB _).mono ?_
      rintro e w1 ⟨rfl, rfl⟩
      clear hB
      go_wp2_with fail
      refine (hf2 _).mono ?_
      rintro e w1 ⟨rfl, b1⟩
      go_wp2
      go_ret2
      exact ⟨rfl, b1⟩
    · have d1 : decide (y1 < y2) = false := decide_eq_false (by omega)
      replace hf1 := hf1 (by omega)
      clear hy1 hy2 hf2 hlt a3 b3 a2 b2 hz1 hz2 ca3 cb3
      go_enter Try.func70, Try.ntmps70
      go_wp2_with fail
      refine (hA _).mono ?_
      rintro e w1 ⟨rfl, rfl⟩
      clear hA
      go_wp2_with fail
      refine (hB _).mono ?_
      rintro e w1 ⟨rfl, rfl⟩
      clear hB
      go_wp2_with fail
      refine (hf1 _).mono ?_
      rintro e w1 ⟨rfl, b1⟩
      go_wp2
      go_ret2
      exact ⟨rfl, b1⟩
theorem xor_top {b : Nat} (hb : b < 18446744073709551616) : bits .xor .u64 (b : Int) 9223372036854775808 = (flip b : Int) :=
  bits_xor_u64_nat b 9223372036854775808 hb (by omega)
theorem fadd_sub {a b : Nat} {mode : Int} {w : World} (ha : (a : Int) ≤ 18446744073709551615) (hb : (b : Int) ≤ 18446744073709551615) :
    Calls Try.prog 59 #[.int .u64 (a : Int), .int .u64 (b : Int), .int .i64 mode] w fun e W' => e = .returned (.tuple #[.int .u64 ((rsubt a b mode).1 : Int), .int .i64 ((rsubt a b mode).2 : Int)]) ∧ Below w.heap.size w W' := by
  obtain ⟨f1, _, _, _⟩ := flip_facts (b := b) (by omega)
  have hx := xor_top (b := b) (by omega)
  have e : rsubt a b mode = radd a (flip b) mode := by
    unfold rsubt
    split
    · rename_i h
      unfold radd
      rw [(flip_told (b := b) (by omega)).1, if_pos (.inr h)]
    · rfl
  rw [e]
  have hf : (flip b : Int) ≤ 18446744073709551615 := by omega
  have h := fadd_add (mode := mode) (w := w) ha hf
  clear e f1
  generalize radd a (flip b) mode = P at *
  generalize flip b = c at *
  go_enter Try.func59, Try.ntmps59
  go_wp2_with fail
  refine h.mono ?_
  rintro e w1 ⟨rfl, b1⟩
  go_wp2
  go_ret2
  exact ⟨rfl, b1⟩
end Go.Proofs.Ytjapilpjahhimaa
