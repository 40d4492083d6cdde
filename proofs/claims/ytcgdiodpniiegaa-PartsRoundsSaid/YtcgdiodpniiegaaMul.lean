/- nat.Mul: the product of two naturals. -/
import Derived.Test.YtcgdiodpniiegaaAddRow
import Derived.Test.YtcgdiodpniiegaaMulNum
import Derived.Test.YtcgdiodpniiegaaSame
namespace Go.Proofs.Ytcgdiodpniiegaa
open Go.RowKit Go.Shelf

attribute [local go_sem] Oper.semAt_some

end Go.Proofs.Ytcgdiodpniiegaa
