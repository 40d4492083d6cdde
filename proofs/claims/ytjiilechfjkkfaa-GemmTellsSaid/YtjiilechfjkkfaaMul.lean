/- nat.Mul: the product of two naturals. -/
import Derived.Test.YtjiilechfjkkfaaAddRow
import Derived.Test.YtjiilechfjkkfaaMulNum
import Derived.Test.YtjiilechfjkkfaaSame
namespace Go.Proofs.Ytjiilechfjkkfaa
open Go.RowKit Go.Shelf

attribute [local go_sem] Oper.semAt_some

end Go.Proofs.Ytjiilechfjkkfaa
