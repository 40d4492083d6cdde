/- nat.Cmp: how two naturals stand. -/
import Derived.Test.YtgppbimbampenaaSmall
namespace Go.Proofs.Ytgppbimbampenaa
open Go.RowKit Go.Shelf

attribute [local go_sem] Oper.semAt_some

end Go.Proofs.Ytgppbimbampenaa
