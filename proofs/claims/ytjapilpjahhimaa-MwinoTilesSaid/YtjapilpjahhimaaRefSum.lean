/- vernierref06.sum and Add: the exact sum, rounded. -/
import Derived.Test.YtjapilpjahhimaaRefRound
import Derived.Test.YtjapilpjahhimaaRefSplit
namespace Go.Proofs.Ytjapilpjahhimaa
open Go.RowKit Go.Shelf

/-- a number and its sign -/
def sv (neg : Bool) (m : Nat) : Int := if neg then -(m : Int) else m
/-- the sum of m times 2^p and k times 2^q, each with its sign, rounded -/
def ssum (neg : Bool) (m : Nat) (p : Int) (other : Bool) (k : Nat) (q : Int) : Int := sv neg (upper m (p - min p q)) + sv other (upper k (q - min p q))
def rsum (neg : Bool) (m : Nat) (p : Int) (other : Bool) (k : Nat) (q mode : Int) : Nat × Nat :=
  if ssum neg m p other k q = 0 then (if neg = other then (sgn neg, 0) else (sgn (decide (mode = 4)), 0))
  else rnd (decide (ssum neg m p other k q < 0)) (ssum neg m p other k q).natAbs 1 (min p q) mode
def nanB : Nat := 9221120237041090560
def radd (a b : Nat) (mode : Int) : Nat × Nat :=
  if cls a = 3 ∨ cls b = 3 then (9221120237041090560, 0)
  else if cls a = 2 ∧ cls b = 2 ∧ a ≠ b then (9221120237041090560, 1)
  else if cls a = 2 then (a, 0) else if cls b = 2 then (b, 0)
  else rsum (neg6 a) (sig a) (xpo a) (neg6 b) (sig b) (xpo b) mode
theorem digs_len06 (R : Nat) : ((digs 65536 R).length = 0) = (R = 0) := by
  by_cases h : R = 0
  · subst h; rw [digs_zero]; simp
  · rw [digs_pos (by decide) h]; simp [h]
theorem dist_lt' {U V : Nat} (h : U < V) : dist U V = V - U := by unfold dist; omega
theorem sig_lt06 (a : Nat) : sig a < 18446744073709551616 := by
  have h := ff_lt a
  unfold sig
  split <;> omega
theorem xpo_range06 (a : Nat) : -1074 ≤ xpo a ∧ xpo a ≤ 972 := by
  have h := fe_lt a
  unfold xpo
  split <;> omega

end Go.Proofs.Ytjapilpjahhimaa
