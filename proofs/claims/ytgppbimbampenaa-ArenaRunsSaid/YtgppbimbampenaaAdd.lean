/- nat.Add: the sum of two naturals. -/
import Derived.Test.YtgppbimbampenaaRow
namespace Go.Proofs.Ytgppbimbampenaa
open Go.RowKit Go.Shelf

attribute [local go_sem] Oper.semAt_some

end Go.Proofs.Ytgppbimbampenaa
