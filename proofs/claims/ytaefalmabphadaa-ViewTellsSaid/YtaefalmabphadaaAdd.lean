/- nat.Add: the sum of two naturals. -/
import Derived.Test.YtaefalmabphadaaRow
namespace Go.Proofs.Ytaefalmabphadaa
open Go.RowKit Go.Shelf

attribute [local go_sem] Oper.semAt_some

end Go.Proofs.Ytaefalmabphadaa
