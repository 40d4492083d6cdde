/- nat.Sub: how far two naturals are apart. -/
import Derived.Test.YtgobclmihppopabDoorRow
namespace Go.Proofs.YtgobclmihppopabDoor
open Go.RowKit Go.Shelf

attribute [local go_sem] Oper.semAt_some

end Go.Proofs.YtgobclmihppopabDoor
