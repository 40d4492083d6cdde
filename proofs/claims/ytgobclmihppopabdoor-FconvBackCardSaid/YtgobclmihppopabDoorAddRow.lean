/- nat.addRow: a row and a list times a word. -/
import Derived.Test.YtgobclmihppopabDoorBits
namespace Go.Proofs.YtgobclmihppopabDoor
open Go.RowKit Go.Shelf

attribute [local go_sem] Oper.semAt_some

end Go.Proofs.YtgobclmihppopabDoor
