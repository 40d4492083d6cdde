/- nat.Cmp: how two naturals stand. -/
import Derived.Test.YtcgdiodpniiegaaSmall
namespace Go.Proofs.Ytcgdiodpniiegaa
open Go.RowKit Go.Shelf

attribute [local go_sem] Oper.semAt_some

end Go.Proofs.Ytcgdiodpniiegaa
