/- nat.Cmp: how two naturals stand. -/
import Derived.Test.YtjiilechfjkkfaaSmall
namespace Go.Proofs.Ytjiilechfjkkfaa
open Go.RowKit Go.Shelf

attribute [local go_sem] Oper.semAt_some

end Go.Proofs.Ytjiilechfjkkfaa
