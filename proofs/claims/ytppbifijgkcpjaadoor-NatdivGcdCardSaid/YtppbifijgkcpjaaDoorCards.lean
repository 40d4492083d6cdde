/-
  DERIVED. GIVEN WITH THE SEED: THE CARDS: each row of YtppbifijgkcpjaaDoorRows.lean that lists a variable, with what it lists TIED to the program's text (the seventh form; the later family's looks); each row that meets fmt, with fmt's text TOLD by the authors' own Lean function (tested against real Go, not proved from fmt's source: count such statements apart). THE CARD IS WHAT COUNTS. Prove the row's statement (the work); the ties are given (YtppbifijgkcpjaaDoorTie.lean); close each card by the builder's one call (the guide's Derived/Test/ToyasCard.lean, 'card_holds'). Laid BY PROGRAM, IN A SANDBOX (cutbox-door.mjs). By AI agents, Wed Nov 11 2026. No macro, syntax, notation, axiom, sorry.
-/
import Derived.Test.YtppbifijgkcpjaaDoorRows
import GoSem.ClaimSeven
namespace Go.Proofs.YtppbifijgkcpjaaDoor
namespace Rows

/-- THE TIED CARD OF 'vernierlaw02.NatdivGcd'. -/
def natdivGcdCard : Claim7 := { stood := { row := natdivGcdRow, standIns := [], harness := (true, "6336edef551cfafd63e0ee8a8f3e1d562403030b3837d7842e1d34848c17f962"), looks := false }, kinds := [], alts := [], laidByText := true, laidKinds := [.data], laidTests := true, laidLooks := .later }
def NatdivGcdCardSaid : Prop := Claim7.holds Tryd.pinned (.plain (OpenSpec.ofChange natdivGcdSpec)) natdivGcdCard

/-- THE SECOND FORM's CARD OF 'vernierlaw02.NatdivGcd'. -/
def natdivGcdUptoCard : Claim7 := { stood := { row := natdivGcdUptoRow, standIns := [], harness := (true, "6336edef551cfafd63e0ee8a8f3e1d562403030b3837d7842e1d34848c17f962"), looks := false }, kinds := [], alts := [], laidByText := true, laidKinds := [.data], laidTests := true, laidLooks := .later }
def NatdivGcdUptoCardSaid : Prop := Claim7.holds Tryd.pinned (.plain (OpenSpec.upto natdivGcdSpec)) natdivGcdUptoCard
end Rows
end Go.Proofs.YtppbifijgkcpjaaDoor
