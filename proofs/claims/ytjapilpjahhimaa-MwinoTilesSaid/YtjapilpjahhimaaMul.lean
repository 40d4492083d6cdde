/- nat.Mul: the product of two naturals. -/
import Derived.Test.YtjapilpjahhimaaAddRow
import Derived.Test.YtjapilpjahhimaaBits
import Derived.Test.YtjapilpjahhimaaSame
namespace Go.Proofs.Ytjapilpjahhimaa
open Go.RowKit Go.Shelf

attribute [local go_sem] Oper.semAt_some

end Go.Proofs.Ytjapilpjahhimaa
