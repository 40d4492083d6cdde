/- Numbers of other kinds: plain numbers. No program is named here. -/
import Derived.Test.YtgobclmihppopabDoorFmNum
namespace Go.Proofs.YtgobclmihppopabDoor

/-- an int, a number's bits -/
def intB (n mode : Int) : Nat × Nat := if n = 0 then (0, 0) else rnd (decide (n < 0)) n.natAbs 1 0 mode
/-- m times 2^x, as a whole number by a direction; is it another one? -/
def wq (neg : Bool) (m : Nat) (x mode : Int) : Nat :=
  if 0 ≤ x then m * 2 ^ x.toNat
  else if rup neg mode (m / 2 ^ (-x).toNat) (decide (m % 2 ^ (-x).toNat ≠ 0)) (cmpN (2 * (m % 2 ^ (-x).toNat)) (2 ^ (-x).toNat)) then m / 2 ^ (-x).toNat + 1 else m / 2 ^ (-x).toNat
def wo (m : Nat) (x : Int) : Bool := decide (x < 0) && decide (m % 2 ^ (-x).toNat ≠ 0)
def wqA (a : Nat) (mode : Int) : Nat := wq (neg6 a) (sig a) (xpo a) mode
def woA (a : Nat) : Bool := wo (sig a) (xpo a)
def wflag (a : Nat) : Nat := if woA a then 16 else 0
def wbits (neg : Bool) (q : Nat) : Nat := if q = 0 then sgn neg else (rnd neg q 1 0 0).1
def wholeB (a : Nat) (mode : Int) : Nat × Nat := if cls a = 3 then (9221120237041090560, 0) else if cls a = 2 then (a, 0) else (wbits (neg6 a) (wqA a mode), wflag a)
def toIntB (a : Nat) (mode : Int) : Int × Nat :=
  if 2 ≤ cls a then (0, 1) else if 4611686018427387904 < wqA a mode then (0, 1) else (sv (neg6 a) (wqA a mode), wflag a)
/-- may a dyadic number be, whose list has m words? (as mayB of DyNum) -/
def mayV (m : Nat) (E : Int) : Bool := decide (-16384 ≤ E) && decide (E ≤ 16384) && decide (m ≤ 1024)
theorem mayV_iff {m : Nat} {E : Int} : mayV m E = true ↔ -16384 ≤ E ∧ E ≤ 16384 ∧ m ≤ 1024 := by
  simp [mayV, and_assoc]
/-- few bits are told exactly -/
theorem rnd_few {neg : Bool} {N : Nat} {E mode : Int} (hN : 0 < N) (hb : N < 9007199254740992) (h1 : -1000 ≤ E) (h2 : E ≤ 960) : (rnd neg N 1 E mode).2 = 0 := by
  have hk53 : nbits N ≤ 53 := nbits_le (k := 53) (by omega)
  have hk1 : 1 ≤ nbits N := (nbits_bounds (by omega : N ≠ 0)).1
  obtain ⟨k, hk⟩ : ∃ k : Nat, rx N E = E - k := ⟨(E - rx N E).toNat, by unfold rx; omega⟩
  have hf := fits_up hN hk
  have hkb : k + nbits N ≤ 53 := by unfold rx at hk; omega
  rw [rnd_up hN hk, fin_eq hf]
  have hup : rup neg mode (N * 2 ^ k) false (-1) = false := by
    unfold rup
    split
    · rfl
    · split
      · rfl
      · split
        · rfl
        · split <;> rfl
  rw [hup, if_neg Bool.false_ne_true]
  have hx : rx N E ≤ 970 := by unfold rx; omega
  rw [if_neg]
  · rfl
  · rw [hk] at hx
    have := hf.2.1
    have h3 : (E - (k : Int) + 1074).toNat ≤ 2044 := by omega
    have := Nat.mul_le_mul_right 4503599627370496 h3
    omega
theorem wq_small {neg : Bool} {m : Nat} {x mode : Int} (hm : m < 9007199254740992) (hx : x < 0) : wq neg m x mode ≤ 4503599627370496 := by
  unfold wq
  rw [if_neg (by omega)]
  obtain ⟨k, hk⟩ : ∃ k, (-x).toNat = k + 1 := ⟨(-x).toNat - 1, by omega⟩
  rw [hk, Nat.pow_succ]
  have h1 : m / (2 ^ k * 2) ≤ m / 2 := by
    rw [Nat.mul_comm, ← Nat.div_div_eq_div_mul]
    exact Nat.div_le_self _ _
  split <;> omega
/-- a whole number's bits are that number, with its sign -/
theorem wbits_is {a : Nat} {mode : Int} (ha : a < 18446744073709551616) (hc : cls a ≤ 1) :
    neg6 (wbits (neg6 a) (wqA a mode)) = neg6 a ∧ wbits (neg6 a) (wqA a mode) < 18446744073709551616 ∧ -1074 ≤ xpo (wbits (neg6 a) (wqA a mode)) ∧ xpo (wbits (neg6 a) (wqA a mode)) ≤ 971 ∧
      sig (wbits (neg6 a) (wqA a mode)) * 2 ^ (xpo (wbits (neg6 a) (wqA a mode)) - min (xpo (wbits (neg6 a) (wqA a mode))) 0).toNat = wqA a mode * 2 ^ (-min (xpo (wbits (neg6 a) (wqA a mode))) 0).toNat := by
  have hfe := cls_fin.1 hc
  have hsl : sig a < 9007199254740992 := by
    have := ff_lt a
    unfold sig; split <;> omega
  have hz : ∀ s : Bool, sig (sgn s) = 0 ∧ xpo (sgn s) = -1074 ∧ neg6 (sgn s) = s ∧ sgn s < 18446744073709551616 := by
    intro s; cases s <;> decide
  obtain ⟨q, hq⟩ : ∃ q, q = wqA a mode := ⟨_, rfl⟩
  rw [← hq]
  unfold wbits
  by_cases h0 : q = 0
  · rw [if_pos h0]
    obtain ⟨z1, z2, z3, z4⟩ := hz (neg6 a)
    rw [z1, z2, z3]
    refine ⟨rfl, z4, by omega, by omega, ?_⟩
    rw [h0, Nat.zero_mul, Nat.zero_mul]
  · rw [if_neg h0]
    have hfl : (rnd (neg6 a) q 1 0 0).2 = 0 := by
      by_cases hx : 0 ≤ xpo a
      · have e : q = sig a * 2 ^ (xpo a).toNat := by rw [hq]; unfold wqA wq; rw [if_pos hx]
        have hs : sig a ≠ 0 := fun h => h0 (by rw [e, h, Nat.zero_mul])
        rw [rnd_is (k := (xpo a).toNat) ha hfe hs (.inl ⟨e, by omega⟩)]
      · have := wq_small (neg := neg6 a) (mode := mode) hsl (show xpo a < 0 by omega)
        have hq' : q ≤ 4503599627370496 := by rw [hq]; exact this
        exact rnd_few (by omega) (by omega) (by omega) (by omega)
    obtain ⟨b, hb⟩ : ∃ b, b = (rnd (neg6 a) q 1 0 0).1 := ⟨_, rfl⟩
    have hr : rnd (neg6 a) q 1 0 0 = (b, 0) := by rw [hb, ← hfl]
    rw [← hb]
    obtain ⟨k1, k2, k3, k4⟩ := rnd_exact (by omega) hr
    obtain ⟨k5, k6⟩ := rnd_neg (by omega) (by decide) hr
    refine ⟨k5, k6, k3, k4, ?_⟩
    unfold upper lower pw at k1
    rw [Nat.one_mul] at k1
    rw [show (xpo b - min (xpo b) 0).toNat = (-(0 - xpo b)).toNat by omega, show (-min (xpo b) 0).toNat = (0 - xpo b).toNat by omega, k1]
/-- an int's bits, scaled, are its number, scaled -/
theorem int_scale {n : Int} {E : Int} (h0 : n ≠ 0) (h1 : n.natAbs ≤ 2147483648) (e1 : -900 ≤ E) (e2 : E ≤ 900) :
    (intB n 0).2 = 0 ∧ (rscale (intB n 0).1 E 0).2 = 0 ∧ (rnd (decide (n < 0)) n.natAbs 1 E 0).2 = 0 ∧ (rscale (intB n 0).1 E 0).1 = (rnd (decide (n < 0)) n.natAbs 1 E 0).1 := by
  have hp : 0 < n.natAbs := by omega
  have f0 := rnd_few (neg := decide (n < 0)) (mode := 0) (E := 0) hp (by omega) (by omega) (by omega)
  have f1 := rnd_few (neg := decide (n < 0)) (mode := 0) (E := E) hp (by omega) (by omega) (by omega)
  unfold intB
  rw [if_neg h0]
  obtain ⟨b, hb⟩ : ∃ b, b = (rnd (decide (n < 0)) n.natAbs 1 0 0).1 := ⟨_, rfl⟩
  have hr : rnd (decide (n < 0)) n.natAbs 1 0 0 = (b, 0) := by rw [hb, ← f0]
  rw [← hb]
  obtain ⟨k1, k2, k3, k4⟩ := rnd_exact hp hr
  obtain ⟨k5, k6⟩ := rnd_neg hp (by decide) hr
  have hsb : sig b ≠ 0 := by
    intro h
    rw [h, Nat.zero_mul] at k1
    have : 0 < upper n.natAbs (0 - xpo b) := Nat.mul_pos hp (pw_pos _)
    omega
  have hc1 : cls b = 1 := by
    have := cls_fin.2 k2
    have h2 := cls_zero_iff this
    have : cls b ≠ 0 := fun h => hsb (h2.1 h)
    omega
  have hcl : clampS E = E := by unfold clampS; omega
  have key : rscale b E 0 = rnd (decide (n < 0)) n.natAbs 1 E 0 := by
    unfold rscale
    rw [if_neg (by omega), if_neg (by omega), k5, hcl]
    unfold upper lower pw at k1
    rw [Nat.one_mul] at k1
    by_cases hx : 0 ≤ xpo b
    · rw [show (0 - xpo b).toNat = 0 by omega, Nat.pow_zero, Nat.mul_one] at k1
      have e := rnd_scale (neg := decide (n < 0)) (num := sig b) (den := 1) (k := (xpo b).toNat) (exp := E) (mode := 0) (by omega) (by decide)
      rw [show (-(0 - xpo b)).toNat = (xpo b).toNat by omega] at k1
      rw [k1, e]
      congr 1
      omega
    · rw [show (-(0 - xpo b)).toNat = 0 by omega, Nat.pow_zero, Nat.mul_one] at k1
      have e := rnd_scale (neg := decide (n < 0)) (num := n.natAbs) (den := 1) (k := (0 - xpo b).toNat) (exp := xpo b + E) (mode := 0) hp (by decide)
      rw [← k1, e]
      congr 1
      omega
  refine ⟨f0, ?_, f1, ?_⟩
  · rw [key]; exact f1
  · rw [key]
end Go.Proofs.YtgobclmihppopabDoor
