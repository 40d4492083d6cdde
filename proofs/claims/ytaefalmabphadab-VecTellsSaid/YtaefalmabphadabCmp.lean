/- nat.Cmp: how two naturals stand. -/
import Derived.Test.YtaefalmabphadabSmall
namespace Go.Proofs.Ytaefalmabphadab
open Go.RowKit Go.Shelf

attribute [local go_sem] Oper.semAt_some

end Go.Proofs.Ytaefalmabphadab
