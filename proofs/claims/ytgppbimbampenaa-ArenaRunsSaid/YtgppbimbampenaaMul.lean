/- nat.Mul: the product of two naturals. -/
import Derived.Test.YtgppbimbampenaaAddRow
import Derived.Test.YtgppbimbampenaaMulNum
import Derived.Test.YtgppbimbampenaaSame
namespace Go.Proofs.Ytgppbimbampenaa
open Go.RowKit Go.Shelf

attribute [local go_sem] Oper.semAt_some

end Go.Proofs.Ytgppbimbampenaa
