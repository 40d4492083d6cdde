/-
  DERIVED. GIVEN WITH THE SEED: THE CARDS: each row of YtfbnpdlkbabmfaaDoorRows.lean that lists a variable, with what it lists TIED to the program's text (the seventh form; the later family's looks); each row that meets fmt, with fmt's text TOLD by the authors' own Lean function (tested against real Go, not proved from fmt's source: count such statements apart). THE CARD IS WHAT COUNTS. Prove the row's statement (the work); the ties are given (YtfbnpdlkbabmfaaDoorTie.lean); close each card by the builder's one call (the guide's Derived/Test/ToyasCard.lean, 'card_holds'). Laid BY PROGRAM, IN A SANDBOX (cutbox-door.mjs). By AI agents, Wed Nov 11 2026. No macro, syntax, notation, axiom, sorry.
-/
import Derived.Test.YtfbnpdlkbabmfaaDoorRows
import GoSem.ClaimSeven
namespace Go.Proofs.YtfbnpdlkbabmfaaDoor
namespace Rows

/-- THE TIED CARD OF 'vernierlaw05.RatioTells'. -/
def ratioTellsCard : Claim7 := { stood := { row := ratioTellsRow, standIns := [], harness := (true, "41506bf3f2289e67d9368f58cf94641b2a159c40eac69e849478445a6e618e26"), looks := false }, kinds := [], alts := [], laidByText := true, laidKinds := [.data], laidTests := true, laidLooks := .later }
def RatioTellsCardSaid : Prop := Claim7.holds Tryd.pinned (.plain (OpenSpec.ofChange ratioTellsSpec)) ratioTellsCard

/-- THE TIED CARD OF 'vernierlaw05.RatioOf'. -/
def ratioOfCard : Claim7 := { stood := { row := ratioOfRow, standIns := [], harness := (true, "41506bf3f2289e67d9368f58cf94641b2a159c40eac69e849478445a6e618e26"), looks := false }, kinds := [], alts := [], laidByText := true, laidKinds := [.data], laidTests := true, laidLooks := .later }
def RatioOfCardSaid : Prop := Claim7.holds Tryd.pinned (.plain (OpenSpec.ofChange ratioOfSpec)) ratioOfCard

/-- THE TIED CARD OF 'vernierlaw05.RatioBack'. -/
def ratioBackCard : Claim7 := { stood := { row := ratioBackRow, standIns := [], harness := (true, "41506bf3f2289e67d9368f58cf94641b2a159c40eac69e849478445a6e618e26"), looks := false }, kinds := [], alts := [], laidByText := true, laidKinds := [.data], laidTests := true, laidLooks := .later }
def RatioBackCardSaid : Prop := Claim7.holds Tryd.pinned (.plain (OpenSpec.ofChange ratioBackSpec)) ratioBackCard

/-- THE TIED CARD OF 'vernierlaw05.RatioMany'. -/
def ratioManyCard : Claim7 := { stood := { row := ratioManyRow, standIns := [], harness := (true, "41506bf3f2289e67d9368f58cf94641b2a159c40eac69e849478445a6e618e26"), looks := false }, kinds := [], alts := [], laidByText := true, laidKinds := [.data], laidTests := true, laidLooks := .later }
def RatioManyCardSaid : Prop := Claim7.holds Tryd.pinned (.plain (OpenSpec.ofChange ratioManySpec)) ratioManyCard

/-- THE SECOND FORM's CARD OF 'vernierlaw05.RatioTells'. -/
def ratioTellsUptoCard : Claim7 := { stood := { row := ratioTellsUptoRow, standIns := [], harness := (true, "41506bf3f2289e67d9368f58cf94641b2a159c40eac69e849478445a6e618e26"), looks := false }, kinds := [], alts := [], laidByText := true, laidKinds := [.data], laidTests := true, laidLooks := .later }
def RatioTellsUptoCardSaid : Prop := Claim7.holds Tryd.pinned (.plain (OpenSpec.upto ratioTellsSpec)) ratioTellsUptoCard

/-- THE SECOND FORM's CARD OF 'vernierlaw05.RatioOf'. -/
def ratioOfUptoCard : Claim7 := { stood := { row := ratioOfUptoRow, standIns := [], harness := (true, "41506bf3f2289e67d9368f58cf94641b2a159c40eac69e849478445a6e618e26"), looks := false }, kinds := [], alts := [], laidByText := true, laidKinds := [.data], laidTests := true, laidLooks := .later }
def RatioOfUptoCardSaid : Prop := Claim7.holds Tryd.pinned (.plain (OpenSpec.upto ratioOfSpec)) ratioOfUptoCard

/-- THE SECOND FORM's CARD OF 'vernierlaw05.RatioBack'. -/
def ratioBackUptoCard : Claim7 := { stood := { row := ratioBackUptoRow, standIns := [], harness := (true, "41506bf3f2289e67d9368f58cf94641b2a159c40eac69e849478445a6e618e26"), looks := false }, kinds := [], alts := [], laidByText := true, laidKinds := [.data], laidTests := true, laidLooks := .later }
def RatioBackUptoCardSaid : Prop := Claim7.holds Tryd.pinned (.plain (OpenSpec.upto ratioBackSpec)) ratioBackUptoCard

/-- THE SECOND FORM's CARD OF 'vernierlaw05.RatioMany'. -/
def ratioManyUptoCard : Claim7 := { stood := { row := ratioManyUptoRow, standIns := [], harness := (true, "41506bf3f2289e67d9368f58cf94641b2a159c40eac69e849478445a6e618e26"), looks := false }, kinds := [], alts := [], laidByText := true, laidKinds := [.data], laidTests := true, laidLooks := .later }
def RatioManyUptoCardSaid : Prop := Claim7.holds Tryd.pinned (.plain (OpenSpec.upto ratioManySpec)) ratioManyUptoCard
end Rows
end Go.Proofs.YtfbnpdlkbabmfaaDoor
