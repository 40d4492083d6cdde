/- nat.Cmp: how two naturals stand. -/
import Derived.Test.YtgppbimbampenabSmall
namespace Go.Proofs.Ytgppbimbampenab
open Go.RowKit Go.Shelf

attribute [local go_sem] Oper.semAt_some

end Go.Proofs.Ytgppbimbampenab
