/- Numbers rounded to binary64: plain numbers. 'rnd neg num den exp mode': num by den times 2^exp, rounded: bits and flags. No program is named here. -/
import Derived.Test.YtjapilpjahhimaaBitNum
namespace Go.Proofs.Ytjapilpjahhimaa

/-- the sign's bit -/
def sgn (neg : Bool) : Nat := if neg then 9223372036854775808 else 0
def infB (neg : Bool) : Nat := sgn neg + 9218868437227405312
/-- what is too great -/
def rbig (neg : Bool) (mode : Int) : Nat × Nat :=
  if mode = 2 ∨ mode = 3 ∧ neg = true ∨ mode = 4 ∧ neg = false then (infB neg - 1, 20) else (infB neg, 20)
/-- is the next one told? -/
def rup (neg : Bool) (mode : Int) (q : Nat) (inx : Bool) (half : Int) : Bool :=
  if mode = 1 then decide (0 ≤ half) else if mode = 2 then false else if mode = 3 then inx && !neg else if mode = 4 then inx && neg else decide (0 < half) || (decide (half = 0) && decide (q % 2 = 1))
def rflags (inx tiny : Bool) : Nat := if inx then (if tiny then 24 else 16) else 0
/-- q times 2^e, with what is left, rounded -/
def fin (neg : Bool) (mode : Int) (q : Nat) (e : Int) (inx tiny : Bool) (half : Int) : Nat × Nat :=
  let q1 := if rup neg mode q inx half then q + 1 else q
  let q2 := if 9007199254740992 ≤ q1 then q1 / 2 else q1
  let e2 := if 9007199254740992 ≤ q1 then e + 1 else e
  if 4503599627370496 ≤ q2 ∧ 971 < e2 then rbig neg mode
  else if q2 < 4503599627370496 then (sgn neg + q2, rflags inx tiny) else (sgn neg + (e2 + 1075).toNat * 4503599627370496 + q2 - 4503599627370496, rflags inx tiny)

def pw (z : Int) : Nat := 2 ^ z.toNat
theorem pw_pos (z : Int) : 0 < pw z := Nat.two_pow_pos _
theorem pw_of_le {z : Int} (h : z ≤ 0) : pw z = 1 := by
  unfold pw; rw [Int.toNat_of_nonpos h, Nat.pow_zero]
theorem pw_succ {z : Int} (h : 0 ≤ z) : pw (z + 1) = 2 * pw z := by
  unfold pw
  rw [show (z + 1).toNat = z.toNat + 1 by omega, Nat.pow_succ, Nat.mul_comm]
theorem pw_nat (n : Nat) : pw (n : Int) = 2 ^ n := by simp [pw]
theorem pw_add {a b : Int} (ha : 0 ≤ a) (hb : 0 ≤ b) : pw (a + b) = pw a * pw b := by
  unfold pw
  rw [Int.toNat_add ha hb, Nat.pow_add]
/-- num by den, times 2^z: above and below the line -/
def upper (num : Nat) (z : Int) : Nat := num * pw z
def lower (den : Nat) (z : Int) : Nat := den * pw (-z)
def quo (num den : Nat) (z : Int) : Nat := upper num z / lower den z
def rst (num den : Nat) (z : Int) : Nat := upper num z % lower den z
theorem lower_pos {den : Nat} (h : 0 < den) (z : Int) : 0 < lower den z := Nat.mul_pos h (pw_pos _)
theorem quo_pred (num : Nat) {den : Nat} (_hd : 0 < den) (z : Int) : quo num den (z - 1) = quo num den z / 2 := by
  unfold quo upper lower
  by_cases hz : 1 ≤ z
  · obtain ⟨y, rfl⟩ : ∃ y : Int, z = y + 1 := ⟨z - 1, by omega⟩
    rw [show y + 1 - 1 = y by omega, pw_succ (by omega : 0 ≤ y), pw_of_le (by omega : -y ≤ 0), pw_of_le (by omega : -(y + 1) ≤ 0), Nat.div_div_eq_div_mul, Nat.mul_one, Nat.mul_left_comm, Nat.mul_comm den 2]
    exact (Nat.mul_div_mul_left _ _ (by decide)).symm
  · obtain ⟨y, rfl⟩ : ∃ y : Int, z = -y := ⟨-z, by omega⟩
    rw [show -(-y - 1) = y + 1 by omega, pw_succ (by omega : 0 ≤ y), pw_of_le (by omega : -y - 1 ≤ 0), pw_of_le (by omega : -y ≤ 0), Int.neg_neg, Nat.div_div_eq_div_mul]
    congr 1
    rw [Nat.mul_comm 2, Nat.mul_assoc]
theorem quo_down (num : Nat) {den : Nat} (hd : 0 < den) (z : Int) (k : Nat) : quo num den (z - k) = quo num den z / 2 ^ k := by
  induction k with
  | zero => simp
  | succ k ih => rw [show z - ((k + 1 : Nat) : Int) = z - k - 1 by omega, quo_pred num hd, ih, Nat.div_div_eq_div_mul, ← Nat.pow_succ]
theorem quo_le (num : Nat) {den : Nat} (hd : 0 < den) {y z : Int} (h : y ≤ z) : quo num den y ≤ quo num den z := by
  obtain ⟨k, hk⟩ : ∃ k : Nat, z - y = k := ⟨(z - y).toNat, by omega⟩
  rw [show y = z - k by omega, quo_down num hd]
  exact Nat.div_le_self _ _
/-- how many bits there are above the line, at that place -/
theorem quo_range {num den : Nat} (hn : 0 < num) (hd : 0 < den) (c : Nat) (hc : 1 ≤ c) :
    2 ^ (c - 1) ≤ quo num den ((nbits den : Int) - nbits num + c) ∧ quo num den ((nbits den : Int) - nbits num + c) < 2 ^ (c + 1) := by
  obtain ⟨a1, a2, a3⟩ := nbits_bounds (Nat.ne_of_gt hn)
  obtain ⟨b1, b2, b3⟩ := nbits_bounds (Nat.ne_of_gt hd)
  generalize nbits num = a at *
  generalize nbits den = b at *
  obtain ⟨z, hz⟩ : ∃ z : Int, z = (b : Int) - a + c := ⟨_, rfl⟩
  rw [← hz]
  unfold quo upper lower pw
  generalize hs : z.toNat = s
  generalize ht : (-z).toNat = t
  have e : b + c + t = a + s := by omega
  refine ⟨?_, ?_⟩
  · rw [Nat.le_div_iff_mul_le (Nat.mul_pos hd (Nat.two_pow_pos _))]
    have h1 : 2 ^ (c - 1) * (den * 2 ^ t) ≤ 2 ^ (c - 1) * (2 ^ b * 2 ^ t) := Nat.mul_le_mul_left _ (Nat.mul_le_mul_right _ (Nat.le_of_lt b3))
    have h2 : 2 ^ (a - 1) * 2 ^ s ≤ num * 2 ^ s := Nat.mul_le_mul_right _ a2
    have h3 : 2 ^ (c - 1) * (2 ^ b * 2 ^ t) = 2 ^ (a - 1) * 2 ^ s := by
      rw [← Nat.pow_add, ← Nat.pow_add, ← Nat.pow_add, show c - 1 + (b + t) = a - 1 + s by omega]
    omega
  · rw [Nat.div_lt_iff_lt_mul (Nat.mul_pos hd (Nat.two_pow_pos _))]
    have h1 : 2 ^ (c + 1) * (2 ^ (b - 1) * 2 ^ t) ≤ 2 ^ (c + 1) * (den * 2 ^ t) := Nat.mul_le_mul_left _ (Nat.mul_le_mul_right _ b2)
    have h2 : num * 2 ^ s < 2 ^ a * 2 ^ s := Nat.mul_lt_mul_of_pos_right a3 (Nat.two_pow_pos _)
    have h3 : 2 ^ (c + 1) * (2 ^ (b - 1) * 2 ^ t) = 2 ^ a * 2 ^ s := by
      rw [← Nat.pow_add, ← Nat.pow_add, ← Nat.pow_add, show c + 1 + (b - 1 + t) = a + s by omega]
    omega
/-- the exponent that is looked for first -/
def rlen (num den : Nat) (exp : Int) : Int := (nbits num : Int) - nbits den + exp
def rfrom (num den : Nat) (exp : Int) : Int := max (rlen num den exp - 54) (-1074)
def qat (num den : Nat) (exp e : Int) : Nat := quo num den (exp - e)
def rexp (num den : Nat) (exp : Int) : Int :=
  if qat num den exp (rfrom num den exp) < 9007199254740992 then rfrom num den exp
  else if qat num den exp (rfrom num den exp + 1) < 9007199254740992 then rfrom num den exp + 1 else rfrom num den exp + 2
/-- does e fit? -/
def Fits (q : Nat) (e : Int) : Prop := -1074 ≤ e ∧ q < 9007199254740992 ∧ (4503599627370496 ≤ q ∨ e = -1074)
theorem qat_succ (num : Nat) {den : Nat} (hd : 0 < den) (exp e : Int) : qat num den exp (e + 1) = qat num den exp e / 2 := by
  unfold qat
  rw [show exp - (e + 1) = exp - e - 1 by omega, quo_pred num hd]
theorem qat_from {num den : Nat} (hn : 0 < num) (hd : 0 < den) (exp : Int) :
    qat num den exp (rfrom num den exp) < 36028797018963968 ∧ (9007199254740992 ≤ qat num den exp (rfrom num den exp) ∨ rfrom num den exp = -1074) ∧ -1074 ≤ rfrom num den exp := by
  have h := quo_range hn hd 54 (by decide)
  have h1 : exp - (rlen num den exp - 54) = (nbits den : Int) - nbits num + (54 : Nat) := by unfold rlen; omega
  by_cases hc : -1074 ≤ rlen num den exp - 54
  · have e : rfrom num den exp = rlen num den exp - 54 := by unfold rfrom; omega
    rw [e]
    unfold qat
    rw [h1]
    exact ⟨h.2, .inl h.1, hc⟩
  · have e : rfrom num den exp = -1074 := by unfold rfrom; omega
    have hl : qat num den exp (rfrom num den exp) ≤ quo num den ((nbits den : Int) - nbits num + (54 : Nat)) := by
      unfold qat
      exact quo_le num hd (by omega)
    exact ⟨Nat.lt_of_le_of_lt hl h.2, .inr e, by omega⟩
theorem rexp_fits {num den : Nat} (hn : 0 < num) (hd : 0 < den) (exp : Int) : Fits (qat num den exp (rexp num den exp)) (rexp num den exp) := by
  obtain ⟨h1, h2, h3⟩ := qat_from hn hd exp
  have s1 := qat_succ num hd exp (rfrom num den exp)
  have s2 := qat_succ num hd exp (rfrom num den exp + 1)
  rw [show rfrom num den exp + 1 + 1 = rfrom num den exp + 2 by omega] at s2
  unfold rexp Fits
  split
  · rename_i h; exact ⟨h3, h, by omega⟩
  · split
    · rename_i h h'; exact ⟨by omega, h', by omega⟩
    · rename_i h h'; exact ⟨by omega, by omega, by omega⟩
theorem fits_one {num den : Nat} (hd : 0 < den) {exp e f : Int} (h : Fits (qat num den exp e) e) (h' : Fits (qat num den exp f) f) : e = f := by
  have key : ∀ e f : Int, Fits (qat num den exp e) e → Fits (qat num den exp f) f → ¬ e < f := by
    intro e f ⟨a1, a2, a3⟩ ⟨b1, b2, b3⟩ hlt
    have h1 : qat num den exp f ≤ qat num den exp (e + 1) := by unfold qat; exact quo_le num hd (by omega)
    rw [qat_succ num hd] at h1
    omega
  have k1 := key e f h h'
  have k2 := key f e h' h
  omega
/-- is it less than 2^-1022? -/
def rtiny (num den : Nat) (exp : Int) : Bool := decide (upper num (exp + 1022) < lower den (exp + 1022))
/-- num by den times 2^exp, which is not 0, rounded -/
def rnd (neg : Bool) (num den : Nat) (exp mode : Int) : Nat × Nat :=
  fin neg mode (qat num den exp (rexp num den exp)) (rexp num den exp) (decide (rst num den (exp - rexp num den exp) ≠ 0)) (rtiny num den exp) (cmpN (2 * rst num den (exp - rexp num den exp)) (lower den (exp - rexp num den exp)))
/-- whatever fits is it -/
theorem rnd_char {neg : Bool} {num den : Nat} {exp mode e : Int} {q r : Nat} (hn : 0 < num) (hd : 0 < den) (hf : Fits q e)
    (hq : upper num (exp - e) = q * lower den (exp - e) + r) (hr : r < lower den (exp - e)) :
    rnd neg num den exp mode = fin neg mode q e (decide (r ≠ 0)) (rtiny num den exp) (cmpN (2 * r) (lower den (exp - e))) := by
  have h1 : qat num den exp e = q := by
    unfold qat quo
    rw [hq, Nat.mul_comm, Nat.mul_add_div (lower_pos hd _), Nat.div_eq_of_lt hr]; rfl
  have h2 : rst num den (exp - e) = r := by
    unfold rst
    rw [hq, Nat.mul_comm, Nat.mul_add_mod, Nat.mod_eq_of_lt hr]
  have h3 : rexp num den exp = e := fits_one hd (rexp_fits hn hd exp) (by rw [h1]; exact hf)
  unfold rnd
  rw [h3, h1, h2]
/-- rounded, in one row: what comes behind the last one of an exponent is the first one of the next -/
theorem fin_eq {neg : Bool} {mode : Int} {q : Nat} {e : Int} {inx tiny : Bool} {half : Int} (hf : Fits q e) :
    fin neg mode q e inx tiny half =
      if 9218868437227405312 ≤ (e + 1074).toNat * 4503599627370496 + (if rup neg mode q inx half then q + 1 else q) then rbig neg mode
      else (sgn neg + ((e + 1074).toNat * 4503599627370496 + (if rup neg mode q inx half then q + 1 else q)), rflags inx tiny) := by
  obtain ⟨h1, h2, h3⟩ := hf
  unfold fin
  obtain ⟨q1, hq1⟩ : ∃ q1, q1 = (if rup neg mode q inx half then q + 1 else q) := ⟨_, rfl⟩
  simp only [← hq1]
  have hb : q ≤ q1 ∧ q1 ≤ q + 1 := by rw [hq1]; split <;> omega
  obtain ⟨x, hx⟩ : ∃ x : Nat, e = (x : Int) - 1074 := ⟨(e + 1074).toNat, by omega⟩
  subst hx
  rw [show ((x : Int) - 1074 + 1074).toNat = x by omega]
  by_cases hc : 9007199254740992 ≤ q1
  · simp only [hc, if_true]
    have : q1 = 9007199254740992 := by omega
    subst this
    simp only [show (9007199254740992 : Nat) / 2 = 4503599627370496 from rfl, show (4503599627370496 ≤ 4503599627370496) from Nat.le_refl _, true_and, Nat.lt_irrefl, if_false]
    by_cases hx : 2045 ≤ x
    · rw [if_pos (by omega), if_pos (by omega)]
    · rw [if_neg (by omega), if_neg (by omega), show ((x : Int) - 1074 + 1 + 1075).toNat = x + 2 by omega]
      simp only [Prod.mk.injEq, and_true]
      omega
  · simp only [hc, if_false]
    by_cases hl : q1 < 4503599627370496
    · have : x = 0 := by omega
      subst this
      rw [if_neg (by omega), if_pos hl, if_neg (by omega)]
      simp
    · by_cases hx : 2046 ≤ x
      · rw [if_pos (by omega), if_pos (by omega)]
      · rw [if_neg (by omega), if_neg hl, if_neg (by omega), show ((x : Int) - 1074 + 1075).toNat = x + 1 by omega]
        simp only [Prod.mk.injEq, and_true]
        omega
theorem rexp_ge {num den : Nat} (hn : 0 < num) (hd : 0 < den) (exp : Int) : rlen num den exp - 53 ≤ rexp num den exp := by
  obtain ⟨a, b, c⟩ := rexp_fits hn hd exp
  refine Int.not_lt.1 fun h => ?_
  have h1 := (quo_range hn hd 54 (by decide)).1
  have h2 : quo num den ((nbits den : Int) - nbits num + (54 : Nat)) ≤ qat num den exp (rexp num den exp) := by
    unfold qat
    unfold rlen at h
    exact quo_le num hd (by omega)
  have : (2 : Nat) ^ (54 - 1) = 9007199254740992 := rfl
  omega
/-- what is far too great -/
theorem rnd_far {neg : Bool} {num den : Nat} {exp mode : Int} (hn : 0 < num) (hd : 0 < den) (h : 1025 ≤ rlen num den exp) : rnd neg num den exp mode = rbig neg mode := by
  have hf := rexp_fits hn hd exp
  have hg := rexp_ge hn hd exp
  unfold rnd
  rw [fin_eq hf, if_pos]
  obtain ⟨a, b, c⟩ := hf
  generalize qat num den exp (rexp num den exp) = q at *
  have : 4503599627370496 ≤ q := by omega
  have h1 : 2046 ≤ (rexp num den exp + 1074).toNat := by omega
  have h2 : 2046 * 4503599627370496 ≤ (rexp num den exp + 1074).toNat * 4503599627370496 := Nat.mul_le_mul_right _ h1
  split <;> omega
/-- what is far too small -/
theorem rnd_near {neg : Bool} {num den : Nat} {exp mode : Int} (hn : 0 < num) (hd : 0 < den) (h : rlen num den exp ≤ -1077) : rnd neg num den exp mode = fin neg mode 0 (-1074) true true (-1) := by
  obtain ⟨h1, h2⟩ := quo_range hn hd 1 (by decide)
  have hl := lower_pos hd (exp - -1074)
  have hlt : 2 * upper num (exp - -1074) < lower den (exp - -1074) := by
    have hq : quo num den (exp - -1074 + 1) = 0 := by
      have e1 : quo num den (exp - -1074 + 1) ≤ quo num den ((nbits den : Int) - nbits num + (1 : Nat) - (2 : Nat)) := by
        unfold rlen at h
        exact quo_le num hd (by omega)
      rw [quo_down num hd] at e1
      have e2 : quo num den ((nbits den : Int) - nbits num + (1 : Nat)) / 2 ^ 2 = 0 := Nat.div_eq_of_lt h2
      omega
    unfold rlen at h
    unfold quo at hq
    have hz := (Nat.div_eq_zero_iff.1 hq)
    have hl' := lower_pos hd (exp - -1074 + 1)
    by_cases hz0 : 0 ≤ exp - -1074
    · have : upper num (exp - -1074 + 1) = 2 * upper num (exp - -1074) := by unfold upper; rw [pw_succ hz0, Nat.mul_left_comm]
      have : lower den (exp - -1074 + 1) = lower den (exp - -1074) := by unfold lower; rw [pw_of_le (by omega), pw_of_le (by omega)]
      omega
    · have e1 : upper num (exp - -1074 + 1) = upper num (exp - -1074) := by unfold upper; rw [pw_of_le (by omega), pw_of_le (by omega)]
      have e2 : lower den (exp - -1074) = 2 * lower den (exp - -1074 + 1) := by
        unfold lower
        rw [show -(exp - -1074) = -(exp - -1074 + 1) + 1 by omega, pw_succ (by omega), Nat.mul_left_comm]
      omega
  have hu : 0 < upper num (exp - -1074) := Nat.mul_pos hn (pw_pos _)
  have hch := rnd_char (neg := neg) (mode := mode) (e := -1074) (q := 0) (r := upper num (exp - -1074)) (exp := exp) hn hd ⟨by omega, by omega, .inr rfl⟩ (by omega) (by omega)
  rw [hch, cmpN_lt hlt]
  have ht : rtiny num den exp = true := by
    unfold rtiny
    rw [decide_eq_true_eq]
    have hq : quo num den (exp + 1022) = 0 := by
      have e1 : quo num den (exp + 1022) ≤ quo num den ((nbits den : Int) - nbits num + (1 : Nat) - (2 : Nat)) := by
        unfold rlen at h
        exact quo_le num hd (by omega)
      rw [quo_down num hd] at e1
      have e2 : quo num den ((nbits den : Int) - nbits num + (1 : Nat)) / 2 ^ 2 = 0 := Nat.div_eq_of_lt h2
      omega
    unfold quo at hq
    have hz := (Nat.div_eq_zero_iff.1 hq)
    have hl' := lower_pos hd (exp + 1022)
    omega
  rw [ht, decide_eq_true (by omega)]
end Go.Proofs.Ytjapilpjahhimaa
