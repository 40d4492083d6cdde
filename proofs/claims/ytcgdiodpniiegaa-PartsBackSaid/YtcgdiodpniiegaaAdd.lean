/- nat.Add: the sum of two naturals. -/
import Derived.Test.YtcgdiodpniiegaaRow
namespace Go.Proofs.Ytcgdiodpniiegaa
open Go.RowKit Go.Shelf

attribute [local go_sem] Oper.semAt_some

end Go.Proofs.Ytcgdiodpniiegaa
