/- nat.Sub: how far two naturals are apart. -/
import Derived.Test.YtaefalmabphadabRow
namespace Go.Proofs.Ytaefalmabphadab
open Go.RowKit Go.Shelf

attribute [local go_sem] Oper.semAt_some

end Go.Proofs.Ytaefalmabphadab
