/- nat.Mul: the product of two naturals. -/
import Derived.Test.YtjljmccdlkdgoaaAddRow
import Derived.Test.YtjljmccdlkdgoaaBits
import Derived.Test.YtjljmccdlkdgoaaSame
namespace Go.Proofs.Ytjljmccdlkdgoaa
open Go.RowKit Go.Shelf

attribute [local go_sem] Oper.semAt_some

end Go.Proofs.Ytjljmccdlkdgoaa
