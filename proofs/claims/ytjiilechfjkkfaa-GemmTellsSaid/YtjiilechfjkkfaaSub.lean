/- nat.Sub: how far two naturals are apart. -/
import Derived.Test.YtjiilechfjkkfaaRow
namespace Go.Proofs.Ytjiilechfjkkfaa
open Go.RowKit Go.Shelf

attribute [local go_sem] Oper.semAt_some

end Go.Proofs.Ytjiilechfjkkfaa
