/- nat.Mul: the product of two naturals. -/
import Derived.Test.YtaefalmabphadabAddRow
import Derived.Test.YtaefalmabphadabMulNum
import Derived.Test.YtaefalmabphadabSame
namespace Go.Proofs.Ytaefalmabphadab
open Go.RowKit Go.Shelf

attribute [local go_sem] Oper.semAt_some

end Go.Proofs.Ytaefalmabphadab
