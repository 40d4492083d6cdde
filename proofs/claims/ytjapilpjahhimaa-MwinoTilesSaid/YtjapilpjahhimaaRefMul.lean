/- vernierref06.Mul: the exact product, rounded. -/
import Derived.Test.YtjapilpjahhimaaRefSum
namespace Go.Proofs.Ytjapilpjahhimaa
open Go.RowKit Go.Shelf

theorem sig_pos {a : Nat} (h : cls a = 1) : 0 < sig a := by
  unfold cls at h
  unfold sig
  split at h
  · split at h <;> omega
  · rename_i h1
    by_cases h2 : fe a = 0
    · rw [if_pos h2]
      by_cases h3 : ff a = 0
      · rw [if_pos ⟨h2, h3⟩] at h; omega
      · omega
    · rw [if_neg h2]; omega
/-- the product -/
def rmul (a b : Nat) (mode : Int) : Nat × Nat :=
  if cls a = 3 ∨ cls b = 3 then (9221120237041090560, 0)
  else if cls a = 2 ∧ cls b = 0 ∨ cls a = 0 ∧ cls b = 2 then (9221120237041090560, 1)
  else if cls a = 2 ∨ cls b = 2 then (infB (neg6 a != neg6 b), 0)
  else if cls a = 0 ∨ cls b = 0 then (sgn (neg6 a != neg6 b), 0)
  else rnd (neg6 a != neg6 b) (sig a * sig b) 1 (xpo a + xpo b) mode
end Go.Proofs.Ytjapilpjahhimaa
