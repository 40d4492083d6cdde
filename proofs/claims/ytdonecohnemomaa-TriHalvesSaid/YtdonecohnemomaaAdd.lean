/- nat.Add: the sum of two naturals. -/
import Derived.Test.YtdonecohnemomaaNum
namespace Go.Proofs.Ytdonecohnemomaa
open Go.RowKit Go.Shelf

attribute [local go_sem] Oper.semAt_some

end Go.Proofs.Ytdonecohnemomaa
