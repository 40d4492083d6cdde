/- nat.addRow: a row and a list times a word. -/
import Derived.Test.YtjljmccdlkdgoaaBits
namespace Go.Proofs.Ytjljmccdlkdgoaa
open Go.RowKit Go.Shelf

attribute [local go_sem] Oper.semAt_some

end Go.Proofs.Ytjljmccdlkdgoaa
