/- nat.Sub: how far two naturals are apart. -/
import Derived.Test.YtjapilpjahhimaaNum
namespace Go.Proofs.Ytjapilpjahhimaa
open Go.RowKit Go.Shelf

attribute [local go_sem] Oper.semAt_some

end Go.Proofs.Ytjapilpjahhimaa
