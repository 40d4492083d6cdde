/- nat.Add: the sum of two naturals. -/
import Derived.Test.YtaefalmabphadabRow
namespace Go.Proofs.Ytaefalmabphadab
open Go.RowKit Go.Shelf

attribute [local go_sem] Oper.semAt_some

end Go.Proofs.Ytaefalmabphadab
