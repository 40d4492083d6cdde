/- nat.addRow: a row and a list times a word. -/
import Derived.Test.YtjiilechfjkkfaaBits
namespace Go.Proofs.Ytjiilechfjkkfaa
open Go.RowKit Go.Shelf

attribute [local go_sem] Oper.semAt_some

end Go.Proofs.Ytjiilechfjkkfaa
