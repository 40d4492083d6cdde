/- nat.Mul: the product of two naturals. -/
import Derived.Test.YtgppbimbampenabAddRow
import Derived.Test.YtgppbimbampenabMulNum
import Derived.Test.YtgppbimbampenabSame
namespace Go.Proofs.Ytgppbimbampenab
open Go.RowKit Go.Shelf

attribute [local go_sem] Oper.semAt_some

end Go.Proofs.Ytgppbimbampenab
