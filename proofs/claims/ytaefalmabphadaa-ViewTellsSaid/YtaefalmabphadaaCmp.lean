/- nat.Cmp: how two naturals stand. -/
import Derived.Test.YtaefalmabphadaaSmall
namespace Go.Proofs.Ytaefalmabphadaa
open Go.RowKit Go.Shelf

attribute [local go_sem] Oper.semAt_some

end Go.Proofs.Ytaefalmabphadaa
