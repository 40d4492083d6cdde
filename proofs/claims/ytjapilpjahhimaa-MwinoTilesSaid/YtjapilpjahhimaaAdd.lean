/- nat.Add: the sum of two naturals. -/
import Derived.Test.YtjapilpjahhimaaNum
namespace Go.Proofs.Ytjapilpjahhimaa
open Go.RowKit Go.Shelf

attribute [local go_sem] Oper.semAt_some

end Go.Proofs.Ytjapilpjahhimaa
