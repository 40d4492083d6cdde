/-
  DERIVED. GIVEN WITH THE SEED: THE CARDS: each row of YthipbonhkcjcfaaDoorRows.lean that lists a variable, with what it lists TIED to the program's text (the seventh form; the later family's looks); each row that meets fmt, with fmt's text TOLD by the authors' own Lean function (tested against real Go, not proved from fmt's source: count such statements apart). THE CARD IS WHAT COUNTS. Prove the row's statement (the work); the ties are given (YthipbonhkcjcfaaDoorTie.lean); close each card by the builder's one call (the guide's Derived/Test/ToyasCard.lean, 'card_holds'). Laid BY PROGRAM, IN A SANDBOX (cutbox-door.mjs). By AI agents, Wed Nov 11 2026. No macro, syntax, notation, axiom, sorry.
-/
import Derived.Test.YthipbonhkcjcfaaDoorRows
import GoSem.ClaimSeven
namespace Go.Proofs.YthipbonhkcjcfaaDoor
namespace Rows

/-- THE TIED CARD OF 'vernierlaw04.DyadicTells'. -/
def dyadicTellsCard : Claim7 := { stood := { row := dyadicTellsRow, standIns := [], harness := (true, "a2770709b0fce0d377856921fc796c685fb62bf7a54f19ba8de146b6ce0adf9f"), looks := false }, kinds := [], alts := [], laidByText := true, laidKinds := [.data], laidTests := true, laidLooks := .later }
def DyadicTellsCardSaid : Prop := Claim7.holds Tryd.pinned (.plain (OpenSpec.ofChange dyadicTellsSpec)) dyadicTellsCard

/-- THE TIED CARD OF 'vernierlaw04.DyadicPlain'. -/
def dyadicPlainCard : Claim7 := { stood := { row := dyadicPlainRow, standIns := [], harness := (true, "a2770709b0fce0d377856921fc796c685fb62bf7a54f19ba8de146b6ce0adf9f"), looks := false }, kinds := [], alts := [], laidByText := true, laidKinds := [.data], laidTests := true, laidLooks := .later }
def DyadicPlainCardSaid : Prop := Claim7.holds Tryd.pinned (.plain (OpenSpec.ofChange dyadicPlainSpec)) dyadicPlainCard

/-- THE TIED CARD OF 'vernierlaw04.DyadicAbove'. -/
def dyadicAboveCard : Claim7 := { stood := { row := dyadicAboveRow, standIns := [], harness := (true, "a2770709b0fce0d377856921fc796c685fb62bf7a54f19ba8de146b6ce0adf9f"), looks := false }, kinds := [], alts := [], laidByText := true, laidKinds := [.data], laidTests := true, laidLooks := .later }
def DyadicAboveCardSaid : Prop := Claim7.holds Tryd.pinned (.plain (OpenSpec.ofChange dyadicAboveSpec)) dyadicAboveCard

/-- THE TIED CARD OF 'vernierlaw04.DyadicRing'. -/
def dyadicRingCard : Claim7 := { stood := { row := dyadicRingRow, standIns := [], harness := (true, "a2770709b0fce0d377856921fc796c685fb62bf7a54f19ba8de146b6ce0adf9f"), looks := false }, kinds := [], alts := [], laidByText := true, laidKinds := [.data], laidTests := true, laidLooks := .later }
def DyadicRingCardSaid : Prop := Claim7.holds Tryd.pinned (.plain (OpenSpec.ofChange dyadicRingSpec)) dyadicRingCard

/-- THE SECOND FORM's CARD OF 'vernierlaw04.DyadicTells'. -/
def dyadicTellsUptoCard : Claim7 := { stood := { row := dyadicTellsUptoRow, standIns := [], harness := (true, "a2770709b0fce0d377856921fc796c685fb62bf7a54f19ba8de146b6ce0adf9f"), looks := false }, kinds := [], alts := [], laidByText := true, laidKinds := [.data], laidTests := true, laidLooks := .later }
def DyadicTellsUptoCardSaid : Prop := Claim7.holds Tryd.pinned (.plain (OpenSpec.upto dyadicTellsSpec)) dyadicTellsUptoCard

/-- THE SECOND FORM's CARD OF 'vernierlaw04.DyadicPlain'. -/
def dyadicPlainUptoCard : Claim7 := { stood := { row := dyadicPlainUptoRow, standIns := [], harness := (true, "a2770709b0fce0d377856921fc796c685fb62bf7a54f19ba8de146b6ce0adf9f"), looks := false }, kinds := [], alts := [], laidByText := true, laidKinds := [.data], laidTests := true, laidLooks := .later }
def DyadicPlainUptoCardSaid : Prop := Claim7.holds Tryd.pinned (.plain (OpenSpec.upto dyadicPlainSpec)) dyadicPlainUptoCard

/-- THE SECOND FORM's CARD OF 'vernierlaw04.DyadicAbove'. -/
def dyadicAboveUptoCard : Claim7 := { stood := { row := dyadicAboveUptoRow, standIns := [], harness := (true, "a2770709b0fce0d377856921fc796c685fb62bf7a54f19ba8de146b6ce0adf9f"), looks := false }, kinds := [], alts := [], laidByText := true, laidKinds := [.data], laidTests := true, laidLooks := .later }
def DyadicAboveUptoCardSaid : Prop := Claim7.holds Tryd.pinned (.plain (OpenSpec.upto dyadicAboveSpec)) dyadicAboveUptoCard

/-- THE SECOND FORM's CARD OF 'vernierlaw04.DyadicRing'. -/
def dyadicRingUptoCard : Claim7 := { stood := { row := dyadicRingUptoRow, standIns := [], harness := (true, "a2770709b0fce0d377856921fc796c685fb62bf7a54f19ba8de146b6ce0adf9f"), looks := false }, kinds := [], alts := [], laidByText := true, laidKinds := [.data], laidTests := true, laidLooks := .later }
def DyadicRingUptoCardSaid : Prop := Claim7.holds Tryd.pinned (.plain (OpenSpec.upto dyadicRingSpec)) dyadicRingUptoCard
end Rows
end Go.Proofs.YthipbonhkcjcfaaDoor
