/- Dyadic numbers as they are told: plain numbers. -/
import Derived.Test.YtgobclmihppopabDoorZeros
import Derived.Test.YtgobclmihppopabDoorWhole
namespace Go.Proofs.YtgobclmihppopabDoor

/-- how many bits at the lower end are 0 -/
def tz (N : Nat) : Nat := if N = 0 ∨ N % 2 = 1 then 0 else tz (N / 2) + 1
termination_by N
decreasing_by omega
theorem tz_zero : tz 0 = 0 := by rw [tz]; simp
theorem tz_odd {N : Nat} (h : N % 2 = 1) : tz N = 0 := by rw [tz, if_pos (.inr h)]
theorem tz_even {N : Nat} (h : N % 2 = 0) (h0 : N ≠ 0) : tz N = tz (N / 2) + 1 := by rw [tz, if_neg (by omega)]
theorem tz_pow (z m : Nat) : tz (2 ^ z * (2 * m + 1)) = z := by
  induction z with
  | zero => rw [tz_odd (by omega)]
  | succ z ih =>
    have hp : 0 < 2 ^ z := Nat.pow_pos (by decide)
    have e : 2 ^ (z + 1) * (2 * m + 1) = 2 * (2 ^ z * (2 * m + 1)) := by rw [Nat.pow_succ, Nat.mul_comm (2 ^ z) 2, Nat.mul_assoc]
    have h0 : 2 ^ z * (2 * m + 1) ≠ 0 := Nat.mul_ne_zero (by omega) (by omega)
    rw [e, tz_even (by omega) (by omega), Nat.mul_div_cancel_left _ (by decide), ih]
theorem tz_of {N z : Nat} (h : ZOf N z) : z = tz N := by
  rcases h with ⟨rfl, rfl⟩ | ⟨m, rfl⟩
  · rw [tz_zero]
  · rw [tz_pow]
theorem tz_split {N : Nat} (h : N ≠ 0) : ∃ m, N = 2 ^ tz N * (2 * m + 1) := by
  induction N using Nat.strongRecOn with
  | _ N ih =>
    by_cases ho : N % 2 = 1
    · exact ⟨N / 2, by rw [tz_odd ho]; omega⟩
    · obtain ⟨m, hm⟩ := ih (N / 2) (by omega) (by omega)
      refine ⟨m, ?_⟩
      rw [tz_even (by omega) h, Nat.pow_succ, Nat.mul_comm (2 ^ tz (N / 2)) 2, Nat.mul_assoc, ← hm]
      omega
theorem tz_mul {N : Nat} (t : Nat) (h : N ≠ 0) : tz (N * 2 ^ t) = tz N + t := by
  obtain ⟨m, hm⟩ := tz_split h
  have e : N * 2 ^ t = 2 ^ (tz N + t) * (2 * m + 1) := by
    conv => lhs; rw [hm]
    rw [Nat.pow_add, Nat.mul_assoc, Nat.mul_assoc, Nat.mul_comm (2 * m + 1)]
  rw [e, tz_pow]
theorem tz_div {N : Nat} (t : Nat) (h : N ≠ 0) : N * 2 ^ t / 2 ^ tz (N * 2 ^ t) = N / 2 ^ tz N := by
  rw [tz_mul t h, Nat.pow_add]
  exact Nat.mul_div_mul_right _ _ (Nat.pow_pos (by decide))
theorem tz_odd_part {N : Nat} (h : N ≠ 0) : N / 2 ^ tz N % 2 = 1 := by
  obtain ⟨m, hm⟩ := tz_split h
  have e : N / 2 ^ tz N = 2 * m + 1 := Nat.div_eq_of_eq_mul_right (Nat.pow_pos (by decide)) hm
  rw [e]; omega
theorem tz_back {N : Nat} : N / 2 ^ tz N * 2 ^ tz N = N := by
  by_cases h : N = 0
  · subst h; simp
  · obtain ⟨m, hm⟩ := tz_split h
    have e : N / 2 ^ tz N = 2 * m + 1 := Nat.div_eq_of_eq_mul_right (Nat.pow_pos (by decide)) hm
    rw [e, Nat.mul_comm, ← hm]
theorem tz_lt {N k : Nat} (h : N ≠ 0) (hk : N < 2 ^ k) : tz N < k := by
  obtain ⟨m, hm⟩ := tz_split h
  have h1 : 2 ^ tz N * 1 ≤ 2 ^ tz N * (2 * m + 1) := Nat.mul_le_mul_left _ (by omega)
  rw [← hm] at h1
  exact (Nat.pow_lt_pow_iff_right (a := 2) (by decide)).1 (Nat.lt_of_le_of_lt (by omega) hk)

/-- a number told by its sign, its odd part and its exponent -/
structure Dn where
  s : Bool
  n : Nat
  x : Int
/-- a number as it is told -/
def tld (s : Bool) (N : Nat) (E : Int) : Dn := if N = 0 then ⟨false, 0, 0⟩ else ⟨s, N / 2 ^ tz N, E + tz N⟩
/-- how many words may be -/
def most : Nat := 1024
theorem most_eq : most = 1024 := rfl
def fits (r : Dn) : Bool := decide (-16384 ≤ r.x) && decide (r.x ≤ 16384) && decide ((digs 18446744073709551616 r.n).length ≤ 1024)
def outD (r : Dn) : Dn := if fits r then r else ⟨false, 0, 0⟩
def outE (r : Dn) : Int := if fits r then 0 else 4
/-- may a number be, whose list has m words? -/
def mayB (m : Nat) (E : Int) : Bool := decide (-16384 ≤ E) && decide (E ≤ 16384) && decide (m ≤ 1024)
theorem mayB_iff {m : Nat} {E : Int} : mayB m E = true ↔ -16384 ≤ E ∧ E ≤ 16384 ∧ m ≤ 1024 := by
  simp [mayB, and_assoc]
theorem fits_iff {r : Dn} : fits r = true ↔ -16384 ≤ r.x ∧ r.x ≤ 16384 ∧ (digs 18446744073709551616 r.n).length ≤ 1024 := by
  simp [fits, and_assoc]
theorem fits_zero : fits ⟨false, 0, 0⟩ = true := by
  rw [fits_iff]; exact ⟨by decide, by decide, by rw [digs_zero]; simp⟩
theorem tld_zero (s : Bool) (E : Int) : tld s 0 E = ⟨false, 0, 0⟩ := by rw [tld, if_pos rfl]
theorem tld_pos (s : Bool) {N : Nat} (h : N ≠ 0) (E : Int) : tld s N E = ⟨s, N / 2 ^ tz N, E + tz N⟩ := by rw [tld, if_neg h]
theorem tld_shift (s : Bool) (N t : Nat) (E : Int) : tld s (N * 2 ^ t) E = tld s N (E + t) := by
  by_cases h : N = 0
  · subst h; rw [Nat.zero_mul, tld_zero, tld_zero]
  · have hp : 0 < 2 ^ t := Nat.pow_pos (by decide)
    rw [tld_pos s h, tld_pos s (Nat.mul_ne_zero h (by omega)), tz_div t h, tz_mul t h]
    congr 1
    omega
theorem tld_odd (s : Bool) {N : Nat} (h : N % 2 = 1) (E : Int) : tld s N E = ⟨s, N, E⟩ := by
  rw [tld_pos s (by omega), tz_odd h]; simp
/-- sign and number of a whole number -/
theorem tld_sign {s t : Bool} {N : Nat} {E : Int} (h : N ≠ 0 → s = t) : tld s N E = tld t N E := by
  by_cases h0 : N = 0
  · subst h0; rw [tld_zero, tld_zero]
  · rw [h h0]
theorem outD_fits (r : Dn) : fits (outD r) = true := by
  unfold outD
  split
  · assumption
  · exact fits_zero
/-- a number at an exponent that is not above its own -/
def lev (s : Bool) (M : Nat) (E x : Int) : Int := wn s (M * 2 ^ (E - x).toNat)
def sumD (s : Bool) (M : Nat) (E : Int) (s' : Bool) (M' : Nat) (E' : Int) : Dn :=
  tld (decide (lev s M E (min E E') + lev s' M' E' (min E E') < 0)) (lev s M E (min E E') + lev s' M' E' (min E E')).natAbs (min E E')
def mulD (s : Bool) (M : Nat) (E : Int) (s' : Bool) (M' : Nat) (E' : Int) : Dn := tld (s != s') (M * M') (E + E')
def cmpD (s : Bool) (M : Nat) (E : Int) (s' : Bool) (M' : Nat) (E' : Int) : Int := cmpZ (lev s M E (min E E')) (lev s' M' E' (min E E'))
theorem lev_neg (s : Bool) (M : Nat) (E x : Int) : lev (!s) M E x = -lev s M E x := wn_not ..
/-- what comes out, where the arguments may be or not -/
def resD (ok : Bool) (r : Dn) : Dn := if ok then outD r else ⟨false, 0, 0⟩
def resE (ok : Bool) (r : Dn) : Int := if ok then outE r else 9
theorem resD_fits (ok : Bool) (r : Dn) : fits (resD ok r) = true := by
  unfold resD
  split
  · exact outD_fits r
  · exact fits_zero
theorem resE_zero {ok : Bool} {r : Dn} (h : resE ok r = 0) : ok = true ∧ resD ok r = r := by
  unfold resE outE at h
  unfold resD outD
  split at h
  · rename_i h1
    split at h
    · rename_i h2
      rw [if_pos h1, if_pos h2]
      exact ⟨h1, rfl⟩
    · omega
  · omega
theorem dn_eq {r : Dn} {s : Bool} {n : Nat} {x : Int} (h : r = ⟨s, n, x⟩) : r.s = s ∧ r.n = n ∧ r.x = x := by subst h; exact ⟨rfl, rfl, rfl⟩

end Go.Proofs.YtgobclmihppopabDoor
