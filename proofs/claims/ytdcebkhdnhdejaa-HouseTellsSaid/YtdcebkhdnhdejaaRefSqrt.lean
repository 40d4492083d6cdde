/- vernierref06.Sqrt: the exact root, rounded. -/
import Derived.Test.YtdcebkhdnhdejaaRefMul
import Derived.Deep.CutBlock
import Derived.Deep.DeepCutAuto
namespace Go.Proofs.Ytdcebkhdnhdejaa
open Go.RowKit Go.Shelf

/-- the root, bit by bit -/
def rtF (n : Nat) : Nat → Nat → Nat
  | 0, q => q
  | k + 1, q => rtF n k (if (q + 2 ^ k) * (q + 2 ^ k) ≤ n then q + 2 ^ k else q)
def rt (n : Nat) : Nat := rtF n 71 0
/-- how far a number is shifted up: 120 bits at least, to an even power -/
def sqt (m : Nat) (x : Int) : Nat := if (x - ((120 - nbits m : Nat) : Int)) % 2 = 0 then 120 - nbits m else 120 - nbits m + 1
def rootN (m : Nat) (x mode : Int) : Nat × Nat :=
  rnd false (2 * rt (m * 2 ^ sqt m x) + (if rt (m * 2 ^ sqt m x) * rt (m * 2 ^ sqt m x) < m * 2 ^ sqt m x then 1 else 0)) 1 ((x - sqt m x) / 2 - 1) mode
def rsqrt (a : Nat) (mode : Int) : Nat × Nat :=
  if cls a = 3 then (9221120237041090560, 0) else if cls a = 0 then (a, 0) else if neg6 a = true then (9221120237041090560, 1) else if cls a = 2 then (a, 0)
  else rootN (sig a) (xpo a) mode
theorem rtF_sq {n : Nat} (k : Nat) {q : Nat} (h1 : q * q ≤ n) (h2 : n < (q + 2 ^ k) * (q + 2 ^ k)) : rtF n k q * rtF n k q ≤ n ∧ n < (rtF n k q + 1) * (rtF n k q + 1) := by
  induction k generalizing q with
  | zero => exact ⟨h1, h2⟩
  | succ k ih =>
    unfold rtF
    by_cases h : (q + 2 ^ k) * (q + 2 ^ k) ≤ n
    · rw [if_pos h]
      exact ih h (by rw [Nat.add_assoc, show 2 ^ k + 2 ^ k = 2 ^ (k + 1) by rw [Nat.pow_succ]; omega]; exact h2)
    · rw [if_neg h]
      exact ih h1 (by omega)
theorem nbits_shift {m : Nat} (hm : 0 < m) (s : Nat) : nbits (m * 2 ^ s) = nbits m + s := by
  obtain ⟨a1, a2, a3⟩ := nbits_bounds (Nat.ne_of_gt hm)
  have e : nbits m + s = nbits m - 1 + s + 1 := by omega
  rw [e]
  refine nbits_eq ?_ ?_
  · rw [Nat.pow_add]; exact Nat.mul_le_mul_right _ a2
  · rw [← e, Nat.pow_add]; exact Nat.mul_lt_mul_of_pos_right a3 (Nat.two_pow_pos _)
theorem sqt_facts {m : Nat} {x : Int} : (x - (sqt m x : Int)) % 2 = 0 ∧ 120 - nbits m ≤ sqt m x ∧ sqt m x ≤ 120 - nbits m + 1 ∧ (∀ s : Nat, s < sqt m x → 120 - nbits m ≤ s → ¬ (x - (s : Int)) % 2 = 0) := by
  unfold sqt
  by_cases h : (x - ((120 - nbits m : Nat) : Int)) % 2 = 0
  · rw [if_pos h]
    exact ⟨h, Nat.le_refl _, by omega, fun s h1 h2 => by omega⟩
  · rw [if_neg h]
    refine ⟨by omega, by omega, Nat.le_refl _, fun s h1 h2 => ?_⟩
    obtain rfl : s = 120 - nbits m := by omega
    exact h
theorem tmod_two (X : Int) : X.tmod 2 = 0 ↔ X % 2 = 0 := by
  rcases Int.lt_or_le X 0 with h | h
  · have e : X.tmod 2 = -((-X) % 2) := by
      rw [show X = -(-X) by omega, Int.neg_tmod, Int.tmod_eq_emod_of_nonneg (by omega)]
      simp
    rw [e]
    omega
  · rw [Int.tmod_eq_emod_of_nonneg h]
end Go.Proofs.Ytdcebkhdnhdejaa
