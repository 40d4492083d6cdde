/- nat.Sub: how far two naturals are apart. -/
import Derived.Test.YtdonecohnemomaaNum
namespace Go.Proofs.Ytdonecohnemomaa
open Go.RowKit Go.Shelf

attribute [local go_sem] Oper.semAt_some

end Go.Proofs.Ytdonecohnemomaa
