/- vernierref06.Div: the exact quotient, rounded. -/
import Derived.Test.YtdonecohnemomaaRefMul
namespace Go.Proofs.Ytdonecohnemomaa
open Go.RowKit Go.Shelf

/-- the quotient -/
def rdiv6 (a b : Nat) (mode : Int) : Nat × Nat :=
  if cls a = 3 ∨ cls b = 3 then (9221120237041090560, 0)
  else if cls a = 0 ∧ cls b = 0 ∨ cls a = 2 ∧ cls b = 2 then (9221120237041090560, 1)
  else if cls a = 2 then (infB (neg6 a != neg6 b), 0)
  else if cls b = 0 then (infB (neg6 a != neg6 b), 2)
  else if cls a = 0 ∨ cls b = 2 then (sgn (neg6 a != neg6 b), 0)
  else rnd (neg6 a != neg6 b) (sig a) (sig b) (xpo a - xpo b) mode
end Go.Proofs.Ytdonecohnemomaa
