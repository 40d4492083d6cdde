/- nat.Cmp: how two naturals stand. -/
import Derived.Test.YtgobclmihppopabDoorSmall
namespace Go.Proofs.YtgobclmihppopabDoor
open Go.RowKit Go.Shelf

attribute [local go_sem] Oper.semAt_some

end Go.Proofs.YtgobclmihppopabDoor
