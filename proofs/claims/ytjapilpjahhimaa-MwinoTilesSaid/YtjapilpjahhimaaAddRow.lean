/- nat.addRow: a row and a list times a word. -/
import Derived.Test.YtjapilpjahhimaaBits
namespace Go.Proofs.Ytjapilpjahhimaa
open Go.RowKit Go.Shelf

attribute [local go_sem] Oper.semAt_some

end Go.Proofs.Ytjapilpjahhimaa
