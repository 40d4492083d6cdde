/- nat.Mul: the product of two naturals. -/
import Derived.Test.YtaefalmabphadaaAddRow
import Derived.Test.YtaefalmabphadaaMulNum
import Derived.Test.YtaefalmabphadaaSame
namespace Go.Proofs.Ytaefalmabphadaa
open Go.RowKit Go.Shelf

attribute [local go_sem] Oper.semAt_some

end Go.Proofs.Ytaefalmabphadaa
