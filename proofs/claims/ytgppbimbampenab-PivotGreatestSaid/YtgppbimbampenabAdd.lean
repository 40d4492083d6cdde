/- nat.Add: the sum of two naturals. -/
import Derived.Test.YtgppbimbampenabRow
namespace Go.Proofs.Ytgppbimbampenab
open Go.RowKit Go.Shelf

attribute [local go_sem] Oper.semAt_some

end Go.Proofs.Ytgppbimbampenab
