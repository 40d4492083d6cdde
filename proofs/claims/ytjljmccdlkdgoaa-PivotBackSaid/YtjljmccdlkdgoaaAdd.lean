/- nat.Add: the sum of two naturals. -/
import Derived.Test.YtjljmccdlkdgoaaNum
namespace Go.Proofs.Ytjljmccdlkdgoaa
open Go.RowKit Go.Shelf

attribute [local go_sem] Oper.semAt_some

end Go.Proofs.Ytjljmccdlkdgoaa
