/- vernierref06.Class and Split; vernierref01.Word. -/
import Derived.Test.YtjapilpjahhimaaRefCut
import Derived.Test.YtjapilpjahhimaaRnd
namespace Go.Proofs.Ytjapilpjahhimaa
open Go.RowKit Go.Shelf

/-- the exponent's field, the fraction's -/
def fe (a : Nat) : Nat := a / 4503599627370496 % 2048
def ff (a : Nat) : Nat := a % 4503599627370496
def cls (a : Nat) : Nat := if fe a = 2047 then (if ff a = 0 then 2 else 3) else if fe a = 0 ∧ ff a = 0 then 0 else 1
def sig (a : Nat) : Nat := if fe a = 0 then ff a else ff a + 4503599627370496
def xpo (a : Nat) : Int := if fe a = 0 then -1074 else (fe a : Int) - 1075
def neg6 (a : Nat) : Bool := decide ((9223372036854775808 : Int) ≤ (a : Int))
theorem cls_le (a : Nat) : cls a ≤ 3 := by unfold cls; split <;> split <;> omega
theorem cls_fin {a : Nat} : cls a ≤ 1 ↔ fe a ≠ 2047 := by
  unfold cls
  split
  · rename_i h; split <;> omega
  · split <;> omega
theorem fe_lt (a : Nat) : fe a < 2048 := Nat.mod_lt _ (by decide)
theorem ff_lt (a : Nat) : ff a < 4503599627370496 := Nat.mod_lt _ (by decide)
/-- a number is its sign, exponent and fraction -/
theorem bits_eq {a : Nat} (ha : a < 18446744073709551616) : a = sgn (neg6 a) + fe a * 4503599627370496 + ff a := by
  unfold sgn neg6 fe ff
  by_cases h : (9223372036854775808 : Int) ≤ (a : Int)
  · rw [decide_eq_true h, if_pos rfl]; omega
  · rw [decide_eq_false h, if_neg (by decide)]; omega
theorem class6 {a : Nat} {W : World} (ha : (a : Int) ≤ 18446744073709551615) :
    Calls Try.prog 29 #[.int .u64 (a : Int)] W fun e W' => e = .returned (.int .i64 (cls a : Int)) ∧ W = W' := by
  have e1 : (a : Int) / 4503599627370496 % 2048 = (fe a : Int) := by unfold fe; omega
  have e2 : (a : Int) % 4503599627370496 = (ff a : Int) := by unfold ff; omega
  have hc : cls a = if fe a = 2047 then (if ff a = 0 then 2 else 3) else if fe a = 0 ∧ ff a = 0 then 0 else 1 := rfl
  rw [hc]
  generalize fe a = x at *
  generalize ff a = y at *
  clear hc
  by_cases h1 : x = 2047
  · subst h1
    rw [if_pos rfl]
    by_cases h2 : y = 0
    · subst h2
      go_enter Try.func29, Try.ntmps29
      go_wp2
      go_ret
      simp
    · rw [if_neg h2]
      go_enter Try.func29, Try.ntmps29
      go_wp2
      go_ret
      simp
  · rw [if_neg h1]
    by_cases h3 : x = 0
    · subst h3
      by_cases h2 : y = 0
      · subst h2
        rw [if_pos ⟨rfl, rfl⟩]
        go_enter Try.func29, Try.ntmps29
        go_wp2
        go_ret
        simp
      · rw [if_neg (by omega)]
        go_enter Try.func29, Try.ntmps29
        go_wp2
        go_ret
        simp
    · rw [if_neg (by omega)]
      go_enter Try.func29, Try.ntmps29
      go_wp2
      go_ret
      simp
end Go.Proofs.Ytjapilpjahhimaa

/- Numbers rounded to binary64: whole numbers times 2^exp. No program is named here. -/
namespace Go.Proofs.Ytjapilpjahhimaa

theorem upper_neg (N : Nat) {z : Int} (h : z ≤ 0) : upper N z = N := by unfold upper; rw [pw_of_le h, Nat.mul_one]
theorem upper_nat (N k : Nat) : upper N (k : Int) = N * 2 ^ k := by unfold upper; rw [pw_nat]
theorem lower_one_nat (k : Nat) : lower 1 (-(k : Int)) = 2 ^ k := by unfold lower; rw [Int.neg_neg, pw_nat, Nat.one_mul]
theorem lower_one_pos {z : Int} (h : 0 ≤ z) : lower 1 z = 1 := by unfold lower; rw [pw_of_le (by omega)]
/-- where the rounded one's last bit is -/
def rx (N : Nat) (exp : Int) : Int := max ((nbits N : Int) + exp - 53) (-1074)
theorem div_bits {N k : Nat} (hN : 0 < N) (hk : k < nbits N) : 2 ^ (nbits N - k - 1) ≤ N / 2 ^ k ∧ N / 2 ^ k < 2 ^ (nbits N - k) := by
  obtain ⟨a1, a2, a3⟩ := nbits_bounds (Nat.ne_of_gt hN)
  refine ⟨?_, ?_⟩
  · rw [Nat.le_div_iff_mul_le (Nat.two_pow_pos _), ← Nat.pow_add, show nbits N - k - 1 + k = nbits N - 1 by omega]
    exact a2
  · rw [Nat.div_lt_iff_lt_mul (Nat.two_pow_pos _), ← Nat.pow_add, show nbits N - k + k = nbits N by omega]
    exact a3
theorem div_none {N k : Nat} (hk : nbits N ≤ k) : N / 2 ^ k = 0 :=
  Nat.div_eq_of_lt (Nat.lt_of_lt_of_le (nbits_lt N) (Nat.pow_le_pow_right (by decide) hk))
theorem fits_down {N k : Nat} {exp : Int} (hN : 0 < N) (hk : rx N exp = exp + k) : Fits (N / 2 ^ k) (exp + k) := by
  unfold rx at hk
  refine ⟨by omega, ?_, ?_⟩
  · by_cases h : nbits N ≤ k
    · rw [div_none h]; decide
    · obtain ⟨_, h2⟩ := div_bits hN (by omega : k < nbits N)
      exact Nat.lt_of_lt_of_le h2 (Nat.pow_le_pow_right (by decide) (by omega : nbits N - k ≤ 53))
  · by_cases h : (nbits N : Int) + exp - 53 ≤ -1074
    · right; omega
    · left
      obtain ⟨h1, _⟩ := div_bits hN (by omega : k < nbits N)
      rw [show nbits N - k - 1 = 52 by omega] at h1
      exact h1
theorem fits_up {N k : Nat} {exp : Int} (hN : 0 < N) (hk : rx N exp = exp - k) : Fits (N * 2 ^ k) (exp - k) := by
  obtain ⟨a1, a2, a3⟩ := nbits_bounds (Nat.ne_of_gt hN)
  unfold rx at hk
  refine ⟨by omega, ?_, ?_⟩
  · have h1 : N * 2 ^ k < 2 ^ nbits N * 2 ^ k := Nat.mul_lt_mul_of_pos_right a3 (Nat.two_pow_pos _)
    rw [← Nat.pow_add] at h1
    exact Nat.lt_of_lt_of_le h1 (Nat.pow_le_pow_right (by decide) (by omega : nbits N + k ≤ 53))
  · by_cases h : (nbits N : Int) + exp - 53 ≤ -1074
    · right; omega
    · left
      have h1 : 2 ^ (nbits N - 1) * 2 ^ k ≤ N * 2 ^ k := Nat.mul_le_mul_right _ a2
      rw [← Nat.pow_add, show nbits N - 1 + k = 52 by omega] at h1
      exact h1
theorem tiny_one {N : Nat} (hN : 0 < N) (exp : Int) : rtiny N 1 exp = decide ((nbits N : Int) + exp ≤ -1022) := by
  obtain ⟨a1, a2, a3⟩ := nbits_bounds (Nat.ne_of_gt hN)
  unfold rtiny
  by_cases h : 0 ≤ exp + 1022
  · rw [lower_one_pos h, decide_eq_false, decide_eq_false (by omega)]
    have : 0 < upper N (exp + 1022) := Nat.mul_pos hN (pw_pos _)
    omega
  · obtain ⟨k, hk⟩ : ∃ k : Nat, exp + 1022 = -(k : Int) := ⟨(-(exp + 1022)).toNat, by omega⟩
    rw [upper_neg _ (by omega), hk, lower_one_nat]
    by_cases h1 : nbits N ≤ k
    · rw [decide_eq_true (by omega : (nbits N : Int) + exp ≤ -1022), decide_eq_true]
      exact Nat.lt_of_lt_of_le a3 (Nat.pow_le_pow_right (by decide) h1)
    · rw [decide_eq_false (by omega : ¬ (nbits N : Int) + exp ≤ -1022), decide_eq_false]
      have : 2 ^ k ≤ 2 ^ (nbits N - 1) := Nat.pow_le_pow_right (by decide) (by omega)
      omega
/-- bits are cut off -/
theorem rnd_down {neg : Bool} {N k : Nat} {exp mode : Int} (hN : 0 < N) (hk : rx N exp = exp + k) :
    rnd neg N 1 exp mode = fin neg mode (N / 2 ^ k) (exp + k) (decide (N % 2 ^ k ≠ 0)) (decide ((nbits N : Int) + exp ≤ -1022)) (cmpN (2 * (N % 2 ^ k)) (2 ^ k)) := by
  have e1 : exp - (exp + (k : Int)) = -(k : Int) := by omega
  have h := rnd_char (neg := neg) (mode := mode) (den := 1) (num := N) (exp := exp) (e := exp + k) (q := N / 2 ^ k) (r := N % 2 ^ k) hN (by decide) (fits_down hN hk)
    (by rw [e1, upper_neg _ (by omega), lower_one_nat, Nat.mul_comm, Nat.div_add_mod]) (by rw [e1, lower_one_nat]; exact Nat.mod_lt _ (Nat.two_pow_pos _))
  rw [h, e1, lower_one_nat, tiny_one hN]
/-- no bit is cut off -/
theorem rnd_up {neg : Bool} {N k : Nat} {exp mode : Int} (hN : 0 < N) (hk : rx N exp = exp - k) :
    rnd neg N 1 exp mode = fin neg mode (N * 2 ^ k) (exp - k) false (decide ((nbits N : Int) + exp ≤ -1022)) (-1) := by
  have e1 : exp - (exp - (k : Int)) = (k : Int) := by omega
  have h := rnd_char (neg := neg) (mode := mode) (den := 1) (num := N) (exp := exp) (e := exp - k) (q := N * 2 ^ k) (r := 0) hN (by decide) (fits_up hN hk)
    (by rw [e1, upper_nat, lower_one_pos (by omega)]; omega) (by rw [e1, lower_one_pos (by omega)]; decide)
  rw [h, e1, lower_one_pos (by omega), tiny_one hN]
  rfl
theorem nbits_more (N : Nat) (hN : 0 < N) : nbits (2 * N + 1) = nbits N + 1 := by
  obtain ⟨a1, a2, a3⟩ := nbits_bounds (Nat.ne_of_gt hN)
  refine nbits_eq ?_ ?_
  · have : 2 ^ nbits N = 2 * 2 ^ (nbits N - 1) := by rw [← Nat.pow_succ', show (nbits N - 1).succ = nbits N by omega]
    omega
  · rw [Nat.pow_succ]; omega
/-- with more behind it -/
theorem rnd_more {neg : Bool} {N k : Nat} {exp mode : Int} (hN : 0 < N) (hk : rx N exp = exp + k) (hk1 : 1 ≤ k) :
    rnd neg (2 * N + 1) 1 (exp - 1) mode = fin neg mode (N / 2 ^ k) (exp + k) true (decide ((nbits N : Int) + exp ≤ -1022)) (if 2 * (N % 2 ^ k) < 2 ^ k then -1 else 1) := by
  have hb := nbits_more N hN
  have hk' : rx (2 * N + 1) (exp - 1) = exp - 1 + ((k + 1 : Nat) : Int) := by
    unfold rx at hk ⊢
    rw [hb]
    omega
  rw [rnd_down (by omega) hk', hb]
  have e1 : (2 * N + 1) / 2 ^ (k + 1) = N / 2 ^ k := by
    rw [Nat.pow_succ', ← Nat.div_div_eq_div_mul]
    congr 1
    omega
  have e2 : (2 * N + 1) % 2 ^ (k + 1) = 2 * (N % 2 ^ k) + 1 := by
    have h1 := Nat.div_add_mod (2 * N + 1) (2 ^ (k + 1))
    have h2 := Nat.div_add_mod N (2 ^ k)
    rw [e1] at h1
    rw [Nat.pow_succ', Nat.mul_assoc] at h1
    rw [Nat.pow_succ']
    omega
  have e3 : exp - 1 + ((k + 1 : Nat) : Int) = exp + k := by omega
  have e4 : decide (((nbits N + 1 : Nat) : Int) + (exp - 1) ≤ -1022) = decide ((nbits N : Int) + exp ≤ -1022) := by
    rw [show ((nbits N + 1 : Nat) : Int) + (exp - 1) = (nbits N : Int) + exp by omega]
  have e5 : cmpN (2 * (2 * (N % 2 ^ k) + 1)) (2 ^ (k + 1)) = if 2 * (N % 2 ^ k) < 2 ^ k then -1 else 1 := by
    obtain ⟨j, rfl⟩ : ∃ j, k = j + 1 := ⟨k - 1, by omega⟩
    generalize N % 2 ^ (j + 1) = r
    rw [Nat.pow_succ' (m := 2) (n := j + 1), Nat.pow_succ']
    generalize 2 ^ j = d
    unfold cmpN
    by_cases h : 2 * r < 2 * d
    · rw [if_pos (by omega), if_pos h]
    · rw [if_neg (by omega), if_neg h, if_pos (by omega)]
  rw [e1, e2, e3, e4, e5, decide_eq_true (by omega)]
/-- what is read off the bits is that -/
theorem sig_fits {a : Nat} (hc : fe a ≠ 2047) : Fits (sig a) (xpo a) ∧ (xpo a + 1074).toNat * 4503599627370496 + sig a = fe a * 4503599627370496 + ff a ∧ fe a * 4503599627370496 + ff a < 9218868437227405312 := by
  have h1 := fe_lt a
  have h2 := ff_lt a
  unfold sig xpo Fits
  generalize fe a = x at *
  generalize ff a = y at *
  by_cases h : x = 0
  · subst h
    rw [if_pos rfl, if_pos rfl]
    refine ⟨⟨by omega, by omega, by omega⟩, ?_, by omega⟩
    simp
  · rw [if_neg h, if_neg h]
    refine ⟨⟨by omega, by omega, by omega⟩, ?_, by omega⟩
    rw [show ((x : Int) - 1075 + 1074).toNat = x - 1 by omega]
    obtain ⟨z, rfl⟩ : ∃ z, x = z + 1 := ⟨x - 1, by omega⟩
    omega
theorem rnd_split {a : Nat} {mode : Int} (ha : a < 18446744073709551616) (hc : fe a ≠ 2047) (h0 : sig a ≠ 0) : rnd (neg6 a) (sig a) 1 (xpo a) mode = (a, 0) := by
  obtain ⟨hf, he, hl⟩ := sig_fits hc
  have h := rnd_char (neg := neg6 a) (mode := mode) (den := 1) (num := sig a) (exp := xpo a) (e := xpo a) (q := sig a) (r := 0) (by omega) (by decide) hf
    (by rw [upper_neg _ (by omega), lower_one_pos (by omega)]; omega) (by rw [lower_one_pos (by omega)]; decide)
  rw [h, lower_one_pos (by omega), fin_eq hf]
  have hu : rup (neg6 a) mode (sig a) (decide ((0 : Nat) ≠ 0)) (cmpN (2 * 0) 1) = false := by
    unfold rup
    split
    · rfl
    · split
      · rfl
      · split
        · rfl
        · split
          · rfl
          · simp [cmpN]
  rw [hu, if_neg Bool.false_ne_true, he, if_neg (by omega)]
  have hb := bits_eq ha
  simp only [Prod.mk.injEq]
  exact ⟨by omega, by simp [rflags]⟩
theorem sig_zero {a : Nat} (ha : a < 18446744073709551616) (h0 : sig a = 0) : a = sgn (neg6 a) ∧ xpo a = -1074 := by
  have hb := bits_eq ha
  unfold sig at h0
  unfold xpo
  by_cases h : fe a = 0
  · rw [if_pos h] at h0 ⊢
    exact ⟨by rw [h, h0] at hb; omega, rfl⟩
  · rw [if_neg h] at h0
    omega
theorem sgn_fields (neg : Bool) {t : Nat} (ht : t < 9223372036854775808) : fe (sgn neg + t) = t / 4503599627370496 ∧ ff (sgn neg + t) = t % 4503599627370496 := by
  unfold fe ff sgn
  split <;> omega
theorem enc_fields (neg : Bool) {q : Nat} {e : Int} (hf : Fits q e) (hl : (e + 1074).toNat * 4503599627370496 + q < 9218868437227405312) :
    sig (sgn neg + ((e + 1074).toNat * 4503599627370496 + q)) = q ∧ xpo (sgn neg + ((e + 1074).toNat * 4503599627370496 + q)) = e := by
  obtain ⟨f1, f2, f3⟩ := hf
  obtain ⟨x, hx⟩ : ∃ x : Nat, e = (x : Int) - 1074 := ⟨(e + 1074).toNat, by omega⟩
  subst hx
  rw [show ((x : Int) - 1074 + 1074).toNat = x by omega] at hl ⊢
  obtain ⟨h1, h2⟩ := sgn_fields neg (t := x * 4503599627370496 + q) (by omega)
  unfold sig xpo
  rw [h1, h2]
  by_cases hq : 4503599627370496 ≤ q
  · have d1 : (x * 4503599627370496 + q) / 4503599627370496 = x + 1 := by omega
    have d2 : (x * 4503599627370496 + q) % 4503599627370496 = q - 4503599627370496 := by omega
    rw [d1, d2, if_neg (by omega), if_neg (by omega)]
    exact ⟨by omega, by omega⟩
  · have hx0 : x = 0 := by omega
    subst hx0
    have d1 : (0 * 4503599627370496 + q) / 4503599627370496 = 0 := by omega
    have d2 : (0 * 4503599627370496 + q) % 4503599627370496 = q := by omega
    rw [d1, d2, if_pos rfl, if_pos rfl]
    exact ⟨rfl, by omega⟩
/-- what is told without a flag is that number -/
theorem rnd_exact {neg : Bool} {m b : Nat} {exp mode : Int} (hm : 0 < m) (h : rnd neg m 1 exp mode = (b, 0)) :
    upper m (exp - xpo b) = sig b * lower 1 (exp - xpo b) ∧ fe b ≠ 2047 ∧ -1074 ≤ xpo b ∧ xpo b ≤ 971 := by
  have hf := rexp_fits hm (by decide : 0 < 1) exp
  unfold rnd at h
  rw [fin_eq hf] at h
  obtain ⟨e, he⟩ : ∃ e, e = rexp m 1 exp := ⟨_, rfl⟩
  rw [← he] at hf h
  obtain ⟨q, hq⟩ : ∃ q, q = qat m 1 exp e := ⟨_, rfl⟩
  rw [← hq] at hf h
  obtain ⟨r, hr⟩ : ∃ r, r = rst m 1 (exp - e) := ⟨_, rfl⟩
  rw [← hr] at h
  have hdm : upper m (exp - e) = q * lower 1 (exp - e) + r := by
    rw [hq, hr]
    unfold qat quo rst
    rw [Nat.mul_comm, Nat.div_add_mod]
  have hbig : ∀ x, rbig neg mode = (x, 0) → False := by
    intro x hx
    unfold rbig at hx
    split at hx <;> simp at hx
  obtain ⟨q1, hq1⟩ : ∃ q1, q1 = (if rup neg mode q (decide (r ≠ 0)) (cmpN (2 * r) (lower 1 (exp - e))) then q + 1 else q) := ⟨_, rfl⟩
  rw [← hq1] at h
  by_cases hbg : 9218868437227405312 ≤ (e + 1074).toNat * 4503599627370496 + q1
  · rw [if_pos hbg] at h
    exact (hbig _ h).elim
  · rw [if_neg hbg] at h
    simp only [Prod.mk.injEq] at h
    obtain ⟨hb, hfl⟩ := h
    have hr0 : r = 0 := by
      by_cases h0 : r = 0
      · exact h0
      · rw [decide_eq_true h0] at hfl
        unfold rflags at hfl
        rw [if_pos rfl] at hfl
        split at hfl <;> omega
    subst hr0
    have hu : ∀ q, rup neg mode q (decide ((0 : Nat) ≠ 0)) (cmpN (2 * 0) (lower 1 (exp - e))) = false := by
      intro q
      have hl := lower_pos (by decide : 0 < 1) (exp - e)
      rw [cmpN_lt (by omega)]
      unfold rup
      split
      · rfl
      · split
        · rfl
        · split
          · rfl
          · split
            · rfl
            · rfl
    rw [hu, if_neg Bool.false_ne_true] at hq1
    subst hq1
    obtain ⟨s1, s2⟩ := enc_fields neg hf (by omega)
    rw [hb] at s1 s2
    obtain ⟨f1, f2, f3⟩ := hf
    have hfe : fe b ≠ 2047 := by
      intro hc
      rw [← hb, (sgn_fields neg (by omega)).1] at hc
      omega
    rw [s1, s2]
    refine ⟨by rw [hdm, Nat.add_zero], hfe, f1, ?_⟩
    have h9 := fe_lt b
    rw [← s2]
    unfold xpo
    split <;> omega
/-- what parts.Round answers -/
def clampE (exp : Int) : Int := min (max exp (-16384)) 16384
def prnd (neg : Bool) (hi lo : Nat) (exp : Int) (more : Bool) (mode : Int) : Nat × Nat :=
  if hi * 18446744073709551616 + lo = 0 then (sgn neg, 0)
  else if more = true ∧ (55 ≤ nbits (hi * 18446744073709551616 + lo) ∨ clampE exp ≤ -1080) then rnd neg (2 * (hi * 18446744073709551616 + lo) + 1) 1 (clampE exp - 1) mode
  else rnd neg (hi * 18446744073709551616 + lo) 1 (clampE exp) mode
/-- what parts.Exact answers -/
def pex (neg : Bool) (m : Nat) (exp : Int) : Nat × Bool :=
  if exp < -16384 ∨ 16384 < exp then (0, false) else if m = 0 then (sgn neg, true) else if (rnd neg m 1 exp 0).2 = 0 then ((rnd neg m 1 exp 0).1, true) else (0, false)
theorem pex_split {a : Nat} (ha : a < 18446744073709551616) (hc : fe a ≠ 2047) : pex (neg6 a) (sig a) (xpo a) = (a, true) := by
  have h9 := fe_lt a
  have hx : -1074 ≤ xpo a ∧ xpo a ≤ 972 := by unfold xpo; split <;> omega
  unfold pex
  rw [if_neg (by omega)]
  by_cases h0 : sig a = 0
  · rw [if_pos h0, ← (sig_zero ha h0).1]
  · rw [if_neg h0, rnd_split ha hc h0, if_pos rfl]
theorem prnd_split {a : Nat} (ha : a < 18446744073709551616) (hc : fe a ≠ 2047) : prnd (neg6 a) 0 (sig a) (xpo a) false 0 = (a, 0) := by
  have h9 := fe_lt a
  have hx : -1074 ≤ xpo a ∧ xpo a ≤ 972 := by unfold xpo; split <;> omega
  have hcl : clampE (xpo a) = xpo a := by unfold clampE; omega
  unfold prnd
  rw [hcl, Nat.zero_mul, Nat.zero_add]
  by_cases h0 : sig a = 0
  · rw [if_pos h0, ← (sig_zero ha h0).1]
  · rw [if_neg h0, if_neg (by intro h; exact Bool.noConfusion h.1), rnd_split ha hc h0]
theorem rnd_lt (neg : Bool) {num den : Nat} (hn : 0 < num) (hd : 0 < den) (exp mode : Int) : (rnd neg num den exp mode).1 ≤ 18446744073709551615 := by
  have hf := rexp_fits hn hd exp
  unfold rnd
  rw [fin_eq hf]
  have hs : sgn neg ≤ 9223372036854775808 := by unfold sgn; split <;> omega
  generalize (if rup neg mode (qat num den exp (rexp num den exp)) (decide (rst num den (exp - rexp num den exp) ≠ 0)) (cmpN (2 * rst num den (exp - rexp num den exp)) (lower den (exp - rexp num den exp))) then qat num den exp (rexp num den exp) + 1 else qat num den exp (rexp num den exp)) = q1
  split
  · unfold rbig infB
    split <;> (dsimp only; omega)
  · dsimp only
    omega
theorem pex_lt (neg : Bool) (m : Nat) (exp : Int) : (pex neg m exp).1 ≤ 18446744073709551615 := by
  have hs : sgn neg ≤ 9223372036854775808 := by unfold sgn; split <;> omega
  unfold pex
  split
  · exact Nat.zero_le _
  · split
    · dsimp only; omega
    · split
      · exact rnd_lt neg (by omega) (by decide) exp 0
      · exact Nat.zero_le _
/-- what Exact tells is that number -/
theorem pex_is {neg : Bool} {m : Nat} {exp : Int} (h : (pex neg m exp).2 = true) :
    sig (pex neg m exp).1 * 2 ^ (xpo (pex neg m exp).1 - min (xpo (pex neg m exp).1) exp).toNat = m * 2 ^ (exp - min (xpo (pex neg m exp).1) exp).toNat ∧ -16384 ≤ exp ∧ exp ≤ 16384 ∧ -1074 ≤ xpo (pex neg m exp).1 ∧ xpo (pex neg m exp).1 ≤ 971 := by
  obtain ⟨r, hr⟩ : ∃ r, r = pex neg m exp := ⟨_, rfl⟩
  rw [← hr] at h ⊢
  unfold pex at hr
  by_cases h1 : exp < -16384 ∨ 16384 < exp
  · rw [if_pos h1] at hr
    subst hr
    exact Bool.noConfusion h
  · rw [if_neg h1] at hr
    by_cases h0 : m = 0
    · rw [if_pos h0] at hr
      subst hr h0
      obtain ⟨f1, f2⟩ := sgn_fields neg (t := 0) (by decide)
      rw [Nat.add_zero] at f1 f2
      have e1 : sig (sgn neg) = 0 := by unfold sig; rw [f1, f2]; rfl
      have e2 : xpo (sgn neg) = -1074 := by unfold xpo; rw [f1]; rfl
      rw [e1, e2, Nat.zero_mul, Nat.zero_mul]
      exact ⟨rfl, by omega, by omega, by omega, by omega⟩
    · rw [if_neg h0] at hr
      by_cases hf : (rnd neg m 1 exp 0).2 = 0
      · rw [if_pos hf] at hr
        obtain ⟨k1, k2, k3, k4⟩ := rnd_exact (by omega) (show rnd neg m 1 exp 0 = ((rnd neg m 1 exp 0).1, 0) by rw [← hf])
        subst hr
        refine ⟨?_, by omega, by omega, k3, k4⟩
        dsimp only
        generalize (rnd neg m 1 exp 0).1 = b at *
        unfold upper lower pw at k1
        rw [Nat.one_mul] at k1
        rw [show (xpo b - min (xpo b) exp).toNat = (-(exp - xpo b)).toNat by omega, show (exp - min (xpo b) exp).toNat = (exp - xpo b).toNat by omega, k1]
      · rw [if_neg hf] at hr
        subst hr
        exact Bool.noConfusion h
end Go.Proofs.Ytjapilpjahhimaa
