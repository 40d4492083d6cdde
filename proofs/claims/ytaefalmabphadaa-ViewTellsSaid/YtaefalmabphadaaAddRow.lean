/- nat.addRow: a row and a list times a word. -/
import Derived.Test.YtaefalmabphadaaBits
namespace Go.Proofs.Ytaefalmabphadaa
open Go.RowKit Go.Shelf

attribute [local go_sem] Oper.semAt_some

end Go.Proofs.Ytaefalmabphadaa
