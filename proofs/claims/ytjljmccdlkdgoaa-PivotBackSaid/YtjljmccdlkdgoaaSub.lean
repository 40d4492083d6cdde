/- nat.Sub: how far two naturals are apart. -/
import Derived.Test.YtjljmccdlkdgoaaNum
namespace Go.Proofs.Ytjljmccdlkdgoaa
open Go.RowKit Go.Shelf

attribute [local go_sem] Oper.semAt_some

end Go.Proofs.Ytjljmccdlkdgoaa
