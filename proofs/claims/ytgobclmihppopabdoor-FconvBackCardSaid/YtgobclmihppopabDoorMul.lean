/- nat.Mul: the product of two naturals. -/
import Derived.Test.YtgobclmihppopabDoorAddRow
import Derived.Test.YtgobclmihppopabDoorMulNum
import Derived.Test.YtgobclmihppopabDoorSame
namespace Go.Proofs.YtgobclmihppopabDoor
open Go.RowKit Go.Shelf

attribute [local go_sem] Oper.semAt_some

end Go.Proofs.YtgobclmihppopabDoor
