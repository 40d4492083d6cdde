/-
  DERIVED. GIVEN WITH THE SEED: THE CARDS: each row of YtgobclmihppopabDoorRows.lean that lists a variable, with what it lists TIED to the program's text (the seventh form; the later family's looks); each row that meets fmt, with fmt's text TOLD by the authors' own Lean function (tested against real Go, not proved from fmt's source: count such statements apart). THE CARD IS WHAT COUNTS. Prove the row's statement (the work); the ties are given (YtgobclmihppopabDoorTie.lean); close each card by the builder's one call (the guide's Derived/Test/ToyasCard.lean, 'card_holds'). Laid BY PROGRAM, IN A SANDBOX (cutbox-door.mjs). By AI agents, Wed Nov 11 2026. No macro, syntax, notation, axiom, sorry.
-/
import Derived.Test.YtgobclmihppopabDoorRows
import GoSem.ClaimSeven
namespace Go.Proofs.YtgobclmihppopabDoor
namespace Rows

/-- THE TIED CARD OF 'vernierlaw13.FconvBack'. -/
def fconvBackCard : Claim7 := { stood := { row := fconvBackRow, standIns := [], harness := (true, "83bcf021c97112c4c9408c75c8bb7118ebd1f3951d90561b916798e64e17c4b8"), looks := false }, kinds := [], alts := [], laidByText := true, laidKinds := [.data], laidTests := true, laidLooks := .later }
def FconvBackCardSaid : Prop := Claim7.holds Tryd.pinned (.plain (OpenSpec.ofChange fconvBackSpec)) fconvBackCard

/-- THE SECOND FORM's CARD OF 'vernierlaw13.FconvBack'. -/
def fconvBackUptoCard : Claim7 := { stood := { row := fconvBackUptoRow, standIns := [], harness := (true, "83bcf021c97112c4c9408c75c8bb7118ebd1f3951d90561b916798e64e17c4b8"), looks := false }, kinds := [], alts := [], laidByText := true, laidKinds := [.data], laidTests := true, laidLooks := .later }
def FconvBackUptoCardSaid : Prop := Claim7.holds Tryd.pinned (.plain (OpenSpec.upto fconvBackSpec)) fconvBackUptoCard
end Rows
end Go.Proofs.YtgobclmihppopabDoor
