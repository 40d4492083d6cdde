/- natdiv.raiseWide: a number times a power of two, with a word more. -/
import Derived.Test.YtgobclmihppopabDoorState
import Derived.Test.YtgobclmihppopabDoorRaiseNum
import Derived.IntWalk
namespace Go.Proofs.YtgobclmihppopabDoor
open Go.RowKit Go.Shelf

attribute [local go_sem] Oper.semAt_some

end Go.Proofs.YtgobclmihppopabDoor
