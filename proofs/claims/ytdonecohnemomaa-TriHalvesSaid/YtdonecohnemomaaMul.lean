/- nat.Mul: the product of two naturals. -/
import Derived.Test.YtdonecohnemomaaAddRow
import Derived.Test.YtdonecohnemomaaBits
import Derived.Test.YtdonecohnemomaaSame
namespace Go.Proofs.Ytdonecohnemomaa
open Go.RowKit Go.Shelf

attribute [local go_sem] Oper.semAt_some

end Go.Proofs.Ytdonecohnemomaa
