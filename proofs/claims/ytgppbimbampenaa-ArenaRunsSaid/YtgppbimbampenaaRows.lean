/-
  No cell of these rows narrows 'for every input' (looked for: loops, veiled, ifaces, maps, wideKeys, modest, calm, conditions, laid).
  DERIVED. THE GIVEN ROWS OF THIS SEAT. 12 by the template 'for every input the law returns true; each argument reads behind the call as it read before'; 0 by the template 'total and deterministic' (their statements: YtgppbimbampenaaTotals.lean).
  GIVEN WITH THE SEED: the statements are not yours to turn. If you find one false, say at which input.
  Laid BY PROGRAM, IN A SANDBOX (cutbox-rows.mjs): the forced cells as the released guide's own fill.sh prints them over the translation c020888fbe1dca1a… (all of the seat's roots in one cut). By AI agents, Wed Nov 11 2026. No macro, syntax, notation, axiom, sorry.
-/
import Derived.Test.YtgppbimbampenaaChecked
import GoSem.Claim
import GoSem.ClaimJoined
import GoSem.ClaimMapViews
import Derived.JoinedTies
import Derived.KernelRfl
namespace Go.Proofs.Ytgppbimbampenaa
/- THE CELL 'sum', in the pinned program and in every row, IS THE sha256 OF THE DUMP (.gsa) THAT YtgppbimbampenaaProg.lean LOADS. Nothing in Lean hashes anything: it is a label: what it is worth is what the hold of that sum in a sandbox is worth. -/
noncomputable def Try.pinned : Pinned := { name := "ytgppbimbampenaa", sum := "c020888fbe1dca1acd39585fb66151da1dff8c2610a8eecbe31c8f84f8451f59", checked := Try.checked }
namespace Rows
def none {H : Type} : Left H := { results := [], args := [] }

/-- 'vernierlaw15.ViewPlaces': WHATEVER THE INPUT: true; the input reads as it did. -/
def viewPlacesSpec : ChangeSpec := { name := "viewPlaces", fn := fun _ => fun
  | [d1, d2] => { results := [.lit (.bool true)], args := [d1, d2] }
  | _ => none }
def viewPlacesRow : OpenClaim := { program := "ytgppbimbampenaa", sum := "c020888fbe1dca1acd39585fb66151da1dff8c2610a8eecbe31c8f84f8451f59", func := "vernier/vernierlaw15.ViewPlaces", spec := "viewPlaces", apart := false }
def ViewPlacesSaid : Prop := viewPlacesRow.holds Try.pinned (OpenSpec.ofChange viewPlacesSpec)

/-- ITS FALSE NEIGHBOUR: 'it returns false'. Refute it at one input. -/
def viewPlacesWrong : ChangeSpec := { name := "viewPlaces", fn := fun _ => fun
  | [d1, d2] => { results := [.lit (.bool false)], args := [d1, d2] }
  | _ => none }
def ViewPlacesWrongFalsely : Prop := viewPlacesRow.holds Try.pinned (OpenSpec.ofChange viewPlacesWrong)

/-- 'vernierlaw17.PermTells': WHATEVER THE INPUT: true; the input reads as it did. -/
def permTellsSpec : ChangeSpec := { name := "permTells", fn := fun _ => fun
  | [d1, d2, d3] => { results := [.lit (.bool true)], args := [d1, d2, d3] }
  | _ => none }
def permTellsRow : OpenClaim := { program := "ytgppbimbampenaa", sum := "c020888fbe1dca1acd39585fb66151da1dff8c2610a8eecbe31c8f84f8451f59", func := "vernier/vernierlaw17.PermTells", spec := "permTells", unfollowed := true, recurses := true, apart := false }
def PermTellsSaid : Prop := permTellsRow.holds Try.pinned (OpenSpec.ofChange permTellsSpec)

/-- ITS FALSE NEIGHBOUR: 'it returns false'. Refute it at one input. -/
def permTellsWrong : ChangeSpec := { name := "permTells", fn := fun _ => fun
  | [d1, d2, d3] => { results := [.lit (.bool false)], args := [d1, d2, d3] }
  | _ => none }
def PermTellsWrongFalsely : Prop := permTellsRow.holds Try.pinned (OpenSpec.ofChange permTellsWrong)

/-- 'vernierlaw17.PermSwaps': WHATEVER THE INPUT: true; the input reads as it did. -/
def permSwapsSpec : ChangeSpec := { name := "permSwaps", fn := fun _ => fun
  | [d1, d2] => { results := [.lit (.bool true)], args := [d1, d2] }
  | _ => none }
def permSwapsRow : OpenClaim := { program := "ytgppbimbampenaa", sum := "c020888fbe1dca1acd39585fb66151da1dff8c2610a8eecbe31c8f84f8451f59", func := "vernier/vernierlaw17.PermSwaps", spec := "permSwaps", unfollowed := true, recurses := true, apart := false }
def PermSwapsSaid : Prop := permSwapsRow.holds Try.pinned (OpenSpec.ofChange permSwapsSpec)

/-- ITS FALSE NEIGHBOUR: 'it returns false'. Refute it at one input. -/
def permSwapsWrong : ChangeSpec := { name := "permSwaps", fn := fun _ => fun
  | [d1, d2] => { results := [.lit (.bool false)], args := [d1, d2] }
  | _ => none }
def PermSwapsWrongFalsely : Prop := permSwapsRow.holds Try.pinned (OpenSpec.ofChange permSwapsWrong)

/-- 'vernierlaw17.PermRows': WHATEVER THE INPUT: true; the input reads as it did. -/
def permRowsSpec : ChangeSpec := { name := "permRows", fn := fun _ => fun
  | [d1, d2] => { results := [.lit (.bool true)], args := [d1, d2] }
  | _ => none }
def permRowsRow : OpenClaim := { program := "ytgppbimbampenaa", sum := "c020888fbe1dca1acd39585fb66151da1dff8c2610a8eecbe31c8f84f8451f59", func := "vernier/vernierlaw17.PermRows", spec := "permRows", unfollowed := true, recurses := true, apart := false }
def PermRowsSaid : Prop := permRowsRow.holds Try.pinned (OpenSpec.ofChange permRowsSpec)

/-- ITS FALSE NEIGHBOUR: 'it returns false'. Refute it at one input. -/
def permRowsWrong : ChangeSpec := { name := "permRows", fn := fun _ => fun
  | [d1, d2] => { results := [.lit (.bool false)], args := [d1, d2] }
  | _ => none }
def PermRowsWrongFalsely : Prop := permRowsRow.holds Try.pinned (OpenSpec.ofChange permRowsWrong)

/-- 'vernierlaw17.PermOdd': WHATEVER THE INPUT: true; the input reads as it did. -/
def permOddSpec : ChangeSpec := { name := "permOdd", fn := fun _ => fun
  | [d1, d2] => { results := [.lit (.bool true)], args := [d1, d2] }
  | _ => none }
def permOddRow : OpenClaim := { program := "ytgppbimbampenaa", sum := "c020888fbe1dca1acd39585fb66151da1dff8c2610a8eecbe31c8f84f8451f59", func := "vernier/vernierlaw17.PermOdd", spec := "permOdd", unfollowed := true, recurses := true, apart := false }
def PermOddSaid : Prop := permOddRow.holds Try.pinned (OpenSpec.ofChange permOddSpec)

/-- ITS FALSE NEIGHBOUR: 'it returns false'. Refute it at one input. -/
def permOddWrong : ChangeSpec := { name := "permOdd", fn := fun _ => fun
  | [d1, d2] => { results := [.lit (.bool false)], args := [d1, d2] }
  | _ => none }
def PermOddWrongFalsely : Prop := permOddRow.holds Try.pinned (OpenSpec.ofChange permOddWrong)

/-- 'vernierlaw18.ArenaRuns': WHATEVER THE INPUT: true; the input reads as it did. -/
def arenaRunsSpec : ChangeSpec := { name := "arenaRuns", fn := fun _ => fun
  | [d1, d2] => { results := [.lit (.bool true)], args := [d1, d2] }
  | _ => none }
def arenaRunsRow : OpenClaim := { program := "ytgppbimbampenaa", sum := "c020888fbe1dca1acd39585fb66151da1dff8c2610a8eecbe31c8f84f8451f59", func := "vernier/vernierlaw18.ArenaRuns", spec := "arenaRuns", apart := false }
def ArenaRunsSaid : Prop := arenaRunsRow.holds Try.pinned (OpenSpec.ofChange arenaRunsSpec)

/-- ITS FALSE NEIGHBOUR: 'it returns false'. Refute it at one input. -/
def arenaRunsWrong : ChangeSpec := { name := "arenaRuns", fn := fun _ => fun
  | [d1, d2] => { results := [.lit (.bool false)], args := [d1, d2] }
  | _ => none }
def ArenaRunsWrongFalsely : Prop := arenaRunsRow.holds Try.pinned (OpenSpec.ofChange arenaRunsWrong)

/-- 'vernierlaw18.ArenaApart': WHATEVER THE INPUT: true; the input reads as it did. -/
def arenaApartSpec : ChangeSpec := { name := "arenaApart", fn := fun _ => fun
  | [d1, d2, d3, d4] => { results := [.lit (.bool true)], args := [d1, d2, d3, d4] }
  | _ => none }
def arenaApartRow : OpenClaim := { program := "ytgppbimbampenaa", sum := "c020888fbe1dca1acd39585fb66151da1dff8c2610a8eecbe31c8f84f8451f59", func := "vernier/vernierlaw18.ArenaApart", spec := "arenaApart", apart := false }
def ArenaApartSaid : Prop := arenaApartRow.holds Try.pinned (OpenSpec.ofChange arenaApartSpec)

/-- ITS FALSE NEIGHBOUR: 'it returns false'. Refute it at one input. -/
def arenaApartWrong : ChangeSpec := { name := "arenaApart", fn := fun _ => fun
  | [d1, d2, d3, d4] => { results := [.lit (.bool false)], args := [d1, d2, d3, d4] }
  | _ => none }
def ArenaApartWrongFalsely : Prop := arenaApartRow.holds Try.pinned (OpenSpec.ofChange arenaApartWrong)

/-- 'vernierlaw18.ArenaLends': WHATEVER THE INPUT: true; the input reads as it did. -/
def arenaLendsSpec : ChangeSpec := { name := "arenaLends", fn := fun _ => fun
  | [d1, d2] => { results := [.lit (.bool true)], args := [d1, d2] }
  | _ => none }
def arenaLendsRow : OpenClaim := { program := "ytgppbimbampenaa", sum := "c020888fbe1dca1acd39585fb66151da1dff8c2610a8eecbe31c8f84f8451f59", func := "vernier/vernierlaw18.ArenaLends", spec := "arenaLends", apart := false }
def ArenaLendsSaid : Prop := arenaLendsRow.holds Try.pinned (OpenSpec.ofChange arenaLendsSpec)

/-- ITS FALSE NEIGHBOUR: 'it returns false'. Refute it at one input. -/
def arenaLendsWrong : ChangeSpec := { name := "arenaLends", fn := fun _ => fun
  | [d1, d2] => { results := [.lit (.bool false)], args := [d1, d2] }
  | _ => none }
def ArenaLendsWrongFalsely : Prop := arenaLendsRow.holds Try.pinned (OpenSpec.ofChange arenaLendsWrong)

/-- 'vernierlaw27.NeedThird': WHATEVER THE INPUT: true; the input reads as it did. -/
def needThirdSpec : ChangeSpec := { name := "needThird", fn := fun _ => fun
  | [d1, d2, d3, d4] => { results := [.lit (.bool true)], args := [d1, d2, d3, d4] }
  | _ => none }
def needThirdRow : OpenClaim := { program := "ytgppbimbampenaa", sum := "c020888fbe1dca1acd39585fb66151da1dff8c2610a8eecbe31c8f84f8451f59", func := "vernier/vernierlaw27.NeedThird", spec := "needThird", unfollowed := true, recurses := true, apart := false }
def NeedThirdSaid : Prop := needThirdRow.holds Try.pinned (OpenSpec.ofChange needThirdSpec)

/-- ITS FALSE NEIGHBOUR: 'it returns false'. Refute it at one input. -/
def needThirdWrong : ChangeSpec := { name := "needThird", fn := fun _ => fun
  | [d1, d2, d3, d4] => { results := [.lit (.bool false)], args := [d1, d2, d3, d4] }
  | _ => none }
def NeedThirdWrongFalsely : Prop := needThirdRow.holds Try.pinned (OpenSpec.ofChange needThirdWrong)

/-- 'vernierlaw27.NeedTells': WHATEVER THE INPUT: true; the input reads as it did. -/
def needTellsSpec : ChangeSpec := { name := "needTells", fn := fun _ => fun
  | [d1, d2, d3, d4] => { results := [.lit (.bool true)], args := [d1, d2, d3, d4] }
  | _ => none }
def needTellsRow : OpenClaim := { program := "ytgppbimbampenaa", sum := "c020888fbe1dca1acd39585fb66151da1dff8c2610a8eecbe31c8f84f8451f59", func := "vernier/vernierlaw27.NeedTells", spec := "needTells", unfollowed := true, recurses := true, apart := false }
def NeedTellsSaid : Prop := needTellsRow.holds Try.pinned (OpenSpec.ofChange needTellsSpec)

/-- ITS FALSE NEIGHBOUR: 'it returns false'. Refute it at one input. -/
def needTellsWrong : ChangeSpec := { name := "needTells", fn := fun _ => fun
  | [d1, d2, d3, d4] => { results := [.lit (.bool false)], args := [d1, d2, d3, d4] }
  | _ => none }
def NeedTellsWrongFalsely : Prop := needTellsRow.holds Try.pinned (OpenSpec.ofChange needTellsWrong)

/-- 'vernierlaw27.NeedParts': WHATEVER THE INPUT: true; the input reads as it did. -/
def needPartsSpec : ChangeSpec := { name := "needParts", fn := fun _ => fun
  | [d1, d2, d3] => { results := [.lit (.bool true)], args := [d1, d2, d3] }
  | _ => none }
def needPartsRow : OpenClaim := { program := "ytgppbimbampenaa", sum := "c020888fbe1dca1acd39585fb66151da1dff8c2610a8eecbe31c8f84f8451f59", func := "vernier/vernierlaw27.NeedParts", spec := "needParts", unfollowed := true, recurses := true, apart := false }
def NeedPartsSaid : Prop := needPartsRow.holds Try.pinned (OpenSpec.ofChange needPartsSpec)

/-- ITS FALSE NEIGHBOUR: 'it returns false'. Refute it at one input. -/
def needPartsWrong : ChangeSpec := { name := "needParts", fn := fun _ => fun
  | [d1, d2, d3] => { results := [.lit (.bool false)], args := [d1, d2, d3] }
  | _ => none }
def NeedPartsWrongFalsely : Prop := needPartsRow.holds Try.pinned (OpenSpec.ofChange needPartsWrong)

/-- 'vernierlaw24.PivotTells': WHATEVER THE INPUT: true; the input reads as it did. -/
def pivotTellsSpec : ChangeSpec := { name := "pivotTells", fn := fun _ => fun
  | [d1, d2, d3, d4] => { results := [.lit (.bool true)], args := [d1, d2, d3, d4] }
  | _ => none }
def pivotTellsRow : OpenClaim := { program := "ytgppbimbampenaa", sum := "c020888fbe1dca1acd39585fb66151da1dff8c2610a8eecbe31c8f84f8451f59", func := "vernier/vernierlaw24.PivotTells", spec := "pivotTells", unfollowed := true, recurses := true, apart := false }
def PivotTellsSaid : Prop := pivotTellsRow.holds Try.pinned (OpenSpec.ofChange pivotTellsSpec)

/-- ITS FALSE NEIGHBOUR: 'it returns false'. Refute it at one input. -/
def pivotTellsWrong : ChangeSpec := { name := "pivotTells", fn := fun _ => fun
  | [d1, d2, d3, d4] => { results := [.lit (.bool false)], args := [d1, d2, d3, d4] }
  | _ => none }
def PivotTellsWrongFalsely : Prop := pivotTellsRow.holds Try.pinned (OpenSpec.ofChange pivotTellsWrong)

/- THE SECOND FORM. 'bulk': how many values and letters a reading holds, each counted each time it is reached (what is shared counts as often as it is met; a slice's spare places count too). A statement '..UptoSaid' is the law's where the arguments, and the package variables that the reading takes, are together of bulk at most 1048576: NARROWER than '..Said'. Prove '..Said' where nothing that the law and all that it calls make is longer than what came in: it says more and counts as full. Else prove '..UptoSaid'. A law counts once. -/
mutual
def uptoBulk {H : Type} : DataW H → Nat
  | .lit (.string bytes) => bytes.length + 1
  | .lit _ => 1
  | .nil => 1
  | .ptr d => uptoBulk d + 1
  | .slice elems spare => uptoBulkAll elems + uptoBulkAll spare + 1
  | .agg parts => uptoBulkAll parts + 1
  | .iface _ d => uptoBulk d + 1
  | .map entries => uptoBulkEntries entries + 1
  | .held _ => 1
def uptoBulkAll {H : Type} : List (DataW H) → Nat
  | [] => 0
  | d :: r => uptoBulk d + uptoBulkAll r
def uptoBulkEntries {H : Type} : List (Lit × DataW H) → Nat
  | [] => 0
  | x :: r => uptoBulkEntry x + uptoBulkEntries r
def uptoBulkEntry {H : Type} : Lit × DataW H → Nat
  | (.string bytes, d) => bytes.length + uptoBulk d + 1
  | (_, d) => uptoBulk d + 1
 end
def uptoSmall : (H : Type) → List (DataW H) → Bool := fun _ ds => decide (uptoBulkAll ds ≤ 1048576)
def OpenSpec.upto (s : _root_.Go.ChangeSpec) : _root_.Go.OpenSpec := { _root_.Go.OpenSpec.ofChange s with cond := some uptoSmall }

/-- 'vernierlaw15.ViewPlaces', WHERE WHAT IT READS IS OF BULK AT MOST 1048576: true; the input reads as it did. -/
def viewPlacesUptoRow : OpenClaim := { program := "ytgppbimbampenaa", sum := "c020888fbe1dca1acd39585fb66151da1dff8c2610a8eecbe31c8f84f8451f59", func := "vernier/vernierlaw15.ViewPlaces", spec := "viewPlaces", apart := false, narrowed := true }
def ViewPlacesUptoSaid : Prop := viewPlacesUptoRow.holds Try.pinned (OpenSpec.upto viewPlacesSpec)

/-- 'vernierlaw17.PermTells', WHERE WHAT IT READS IS OF BULK AT MOST 1048576: true; the input reads as it did. -/
def permTellsUptoRow : OpenClaim := { program := "ytgppbimbampenaa", sum := "c020888fbe1dca1acd39585fb66151da1dff8c2610a8eecbe31c8f84f8451f59", func := "vernier/vernierlaw17.PermTells", spec := "permTells", unfollowed := true, recurses := true, apart := false, narrowed := true }
def PermTellsUptoSaid : Prop := permTellsUptoRow.holds Try.pinned (OpenSpec.upto permTellsSpec)

/-- 'vernierlaw17.PermSwaps', WHERE WHAT IT READS IS OF BULK AT MOST 1048576: true; the input reads as it did. -/
def permSwapsUptoRow : OpenClaim := { program := "ytgppbimbampenaa", sum := "c020888fbe1dca1acd39585fb66151da1dff8c2610a8eecbe31c8f84f8451f59", func := "vernier/vernierlaw17.PermSwaps", spec := "permSwaps", unfollowed := true, recurses := true, apart := false, narrowed := true }
def PermSwapsUptoSaid : Prop := permSwapsUptoRow.holds Try.pinned (OpenSpec.upto permSwapsSpec)

/-- 'vernierlaw17.PermRows', WHERE WHAT IT READS IS OF BULK AT MOST 1048576: true; the input reads as it did. -/
def permRowsUptoRow : OpenClaim := { program := "ytgppbimbampenaa", sum := "c020888fbe1dca1acd39585fb66151da1dff8c2610a8eecbe31c8f84f8451f59", func := "vernier/vernierlaw17.PermRows", spec := "permRows", unfollowed := true, recurses := true, apart := false, narrowed := true }
def PermRowsUptoSaid : Prop := permRowsUptoRow.holds Try.pinned (OpenSpec.upto permRowsSpec)

/-- 'vernierlaw17.PermOdd', WHERE WHAT IT READS IS OF BULK AT MOST 1048576: true; the input reads as it did. -/
def permOddUptoRow : OpenClaim := { program := "ytgppbimbampenaa", sum := "c020888fbe1dca1acd39585fb66151da1dff8c2610a8eecbe31c8f84f8451f59", func := "vernier/vernierlaw17.PermOdd", spec := "permOdd", unfollowed := true, recurses := true, apart := false, narrowed := true }
def PermOddUptoSaid : Prop := permOddUptoRow.holds Try.pinned (OpenSpec.upto permOddSpec)

/-- 'vernierlaw18.ArenaRuns', WHERE WHAT IT READS IS OF BULK AT MOST 1048576: true; the input reads as it did. -/
def arenaRunsUptoRow : OpenClaim := { program := "ytgppbimbampenaa", sum := "c020888fbe1dca1acd39585fb66151da1dff8c2610a8eecbe31c8f84f8451f59", func := "vernier/vernierlaw18.ArenaRuns", spec := "arenaRuns", apart := false, narrowed := true }
def ArenaRunsUptoSaid : Prop := arenaRunsUptoRow.holds Try.pinned (OpenSpec.upto arenaRunsSpec)

/-- 'vernierlaw18.ArenaApart', WHERE WHAT IT READS IS OF BULK AT MOST 1048576: true; the input reads as it did. -/
def arenaApartUptoRow : OpenClaim := { program := "ytgppbimbampenaa", sum := "c020888fbe1dca1acd39585fb66151da1dff8c2610a8eecbe31c8f84f8451f59", func := "vernier/vernierlaw18.ArenaApart", spec := "arenaApart", apart := false, narrowed := true }
def ArenaApartUptoSaid : Prop := arenaApartUptoRow.holds Try.pinned (OpenSpec.upto arenaApartSpec)

/-- 'vernierlaw18.ArenaLends', WHERE WHAT IT READS IS OF BULK AT MOST 1048576: true; the input reads as it did. -/
def arenaLendsUptoRow : OpenClaim := { program := "ytgppbimbampenaa", sum := "c020888fbe1dca1acd39585fb66151da1dff8c2610a8eecbe31c8f84f8451f59", func := "vernier/vernierlaw18.ArenaLends", spec := "arenaLends", apart := false, narrowed := true }
def ArenaLendsUptoSaid : Prop := arenaLendsUptoRow.holds Try.pinned (OpenSpec.upto arenaLendsSpec)

/-- 'vernierlaw27.NeedThird', WHERE WHAT IT READS IS OF BULK AT MOST 1048576: true; the input reads as it did. -/
def needThirdUptoRow : OpenClaim := { program := "ytgppbimbampenaa", sum := "c020888fbe1dca1acd39585fb66151da1dff8c2610a8eecbe31c8f84f8451f59", func := "vernier/vernierlaw27.NeedThird", spec := "needThird", unfollowed := true, recurses := true, apart := false, narrowed := true }
def NeedThirdUptoSaid : Prop := needThirdUptoRow.holds Try.pinned (OpenSpec.upto needThirdSpec)

/-- 'vernierlaw27.NeedTells', WHERE WHAT IT READS IS OF BULK AT MOST 1048576: true; the input reads as it did. -/
def needTellsUptoRow : OpenClaim := { program := "ytgppbimbampenaa", sum := "c020888fbe1dca1acd39585fb66151da1dff8c2610a8eecbe31c8f84f8451f59", func := "vernier/vernierlaw27.NeedTells", spec := "needTells", unfollowed := true, recurses := true, apart := false, narrowed := true }
def NeedTellsUptoSaid : Prop := needTellsUptoRow.holds Try.pinned (OpenSpec.upto needTellsSpec)

/-- 'vernierlaw27.NeedParts', WHERE WHAT IT READS IS OF BULK AT MOST 1048576: true; the input reads as it did. -/
def needPartsUptoRow : OpenClaim := { program := "ytgppbimbampenaa", sum := "c020888fbe1dca1acd39585fb66151da1dff8c2610a8eecbe31c8f84f8451f59", func := "vernier/vernierlaw27.NeedParts", spec := "needParts", unfollowed := true, recurses := true, apart := false, narrowed := true }
def NeedPartsUptoSaid : Prop := needPartsUptoRow.holds Try.pinned (OpenSpec.upto needPartsSpec)

/-- 'vernierlaw24.PivotTells', WHERE WHAT IT READS IS OF BULK AT MOST 1048576: true; the input reads as it did. -/
def pivotTellsUptoRow : OpenClaim := { program := "ytgppbimbampenaa", sum := "c020888fbe1dca1acd39585fb66151da1dff8c2610a8eecbe31c8f84f8451f59", func := "vernier/vernierlaw24.PivotTells", spec := "pivotTells", unfollowed := true, recurses := true, apart := false, narrowed := true }
def PivotTellsUptoSaid : Prop := pivotTellsUptoRow.holds Try.pinned (OpenSpec.upto pivotTellsSpec)

end Rows
end Go.Proofs.Ytgppbimbampenaa
