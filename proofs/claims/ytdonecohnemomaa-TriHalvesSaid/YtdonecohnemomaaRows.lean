/-
  No cell of these rows narrows 'for every input' (looked for: loops, veiled, ifaces, maps, wideKeys, modest, calm, conditions, laid).
  DERIVED. THE GIVEN ROWS OF THIS SEAT. 12 by the template 'for every input the law returns true; each argument reads behind the call as it read before'; 0 by the template 'total and deterministic' (their statements: YtdonecohnemomaaTotals.lean).
  GIVEN WITH THE SEED: the statements are not yours to turn. If you find one false, say at which input.
  Laid BY PROGRAM, IN A SANDBOX (cutbox-rows.mjs): the forced cells as the released guide's own fill.sh prints them over the translation 30d5974a8fa8350d… (all of the seat's roots in one cut). By AI agents, Wed Nov 11 2026. No macro, syntax, notation, axiom, sorry.
-/
import Derived.Test.YtdonecohnemomaaChecked
import GoSem.Claim
import GoSem.ClaimJoined
import GoSem.ClaimMapViews
import Derived.JoinedTies
import Derived.KernelRfl
namespace Go.Proofs.Ytdonecohnemomaa
/- THE CELL 'sum', in the pinned program and in every row, IS THE sha256 OF THE DUMP (.gsa) THAT YtdonecohnemomaaProg.lean LOADS. Nothing in Lean hashes anything: it is a label: what it is worth is what the hold of that sum in a sandbox is worth. -/
noncomputable def Try.pinned : Pinned := { name := "ytdonecohnemomaa", sum := "30d5974a8fa8350dfcb9c1f34cd5a449a8e562a9d45292fd4338ed04e87926b5", checked := Try.checked }
namespace Rows
def none {H : Type} : Left H := { results := [], args := [] }

/-- 'vernierlaw24.PivotTells': WHATEVER THE INPUT: true; the input reads as it did. -/
def pivotTellsSpec : ChangeSpec := { name := "pivotTells", fn := fun _ => fun
  | [d1, d2, d3, d4] => { results := [.lit (.bool true)], args := [d1, d2, d3, d4] }
  | _ => none }
def pivotTellsRow : OpenClaim := { program := "ytdonecohnemomaa", sum := "30d5974a8fa8350dfcb9c1f34cd5a449a8e562a9d45292fd4338ed04e87926b5", func := "vernier/vernierlaw24.PivotTells", spec := "pivotTells", unfollowed := true, recurses := true, apart := false }
def PivotTellsSaid : Prop := pivotTellsRow.holds Try.pinned (OpenSpec.ofChange pivotTellsSpec)

/-- ITS FALSE NEIGHBOUR: 'it returns false'. Refute it at one input. -/
def pivotTellsWrong : ChangeSpec := { name := "pivotTells", fn := fun _ => fun
  | [d1, d2, d3, d4] => { results := [.lit (.bool false)], args := [d1, d2, d3, d4] }
  | _ => none }
def PivotTellsWrongFalsely : Prop := pivotTellsRow.holds Try.pinned (OpenSpec.ofChange pivotTellsWrong)

/-- 'vernierlaw24.PivotBack': WHATEVER THE INPUT: true; the input reads as it did. -/
def pivotBackSpec : ChangeSpec := { name := "pivotBack", fn := fun _ => fun
  | [d1, d2] => { results := [.lit (.bool true)], args := [d1, d2] }
  | _ => none }
def pivotBackRow : OpenClaim := { program := "ytdonecohnemomaa", sum := "30d5974a8fa8350dfcb9c1f34cd5a449a8e562a9d45292fd4338ed04e87926b5", func := "vernier/vernierlaw24.PivotBack", spec := "pivotBack", unfollowed := true, recurses := true, apart := false }
def PivotBackSaid : Prop := pivotBackRow.holds Try.pinned (OpenSpec.ofChange pivotBackSpec)

/-- ITS FALSE NEIGHBOUR: 'it returns false'. Refute it at one input. -/
def pivotBackWrong : ChangeSpec := { name := "pivotBack", fn := fun _ => fun
  | [d1, d2] => { results := [.lit (.bool false)], args := [d1, d2] }
  | _ => none }
def PivotBackWrongFalsely : Prop := pivotBackRow.holds Try.pinned (OpenSpec.ofChange pivotBackWrong)

/-- 'vernierlaw22.TriTells': WHATEVER THE INPUT: true; the input reads as it did. -/
def triTellsSpec : ChangeSpec := { name := "triTells", fn := fun _ => fun
  | [d1, d2, d3, d4] => { results := [.lit (.bool true)], args := [d1, d2, d3, d4] }
  | _ => none }
def triTellsRow : OpenClaim := { program := "ytdonecohnemomaa", sum := "30d5974a8fa8350dfcb9c1f34cd5a449a8e562a9d45292fd4338ed04e87926b5", func := "vernier/vernierlaw22.TriTells", spec := "triTells", inPlace := ["math/bits.Sub64"], unfollowed := true, recurses := true, named := ["math/bits.divideError", "math/bits.overflowError"], apart := false }
def TriTellsSaid : Prop := triTellsRow.holds Try.pinned (OpenSpec.ofChange triTellsSpec)

/-- ITS FALSE NEIGHBOUR: 'it returns false'. Refute it at one input. -/
def triTellsWrong : ChangeSpec := { name := "triTells", fn := fun _ => fun
  | [d1, d2, d3, d4] => { results := [.lit (.bool false)], args := [d1, d2, d3, d4] }
  | _ => none }
def TriTellsWrongFalsely : Prop := triTellsRow.holds Try.pinned (OpenSpec.ofChange triTellsWrong)

/-- 'vernierlaw22.TriHalves': WHATEVER THE INPUT: true; the input reads as it did. -/
def triHalvesSpec : ChangeSpec := { name := "triHalves", fn := fun _ => fun
  | [d1, d2, d3] => { results := [.lit (.bool true)], args := [d1, d2, d3] }
  | _ => none }
def triHalvesRow : OpenClaim := { program := "ytdonecohnemomaa", sum := "30d5974a8fa8350dfcb9c1f34cd5a449a8e562a9d45292fd4338ed04e87926b5", func := "vernier/vernierlaw22.TriHalves", spec := "triHalves", inPlace := ["math/bits.Sub64"], unfollowed := true, recurses := true, named := ["math/bits.divideError", "math/bits.overflowError"], apart := false }
def TriHalvesSaid : Prop := triHalvesRow.holds Try.pinned (OpenSpec.ofChange triHalvesSpec)

/-- ITS FALSE NEIGHBOUR: 'it returns false'. Refute it at one input. -/
def triHalvesWrong : ChangeSpec := { name := "triHalves", fn := fun _ => fun
  | [d1, d2, d3] => { results := [.lit (.bool false)], args := [d1, d2, d3] }
  | _ => none }
def TriHalvesWrongFalsely : Prop := triHalvesRow.holds Try.pinned (OpenSpec.ofChange triHalvesWrong)

/-- 'vernierlaw22.TriRest': WHATEVER THE INPUT: true; the input reads as it did. -/
def triRestSpec : ChangeSpec := { name := "triRest", fn := fun _ => fun
  | [d1, d2, d3, d4] => { results := [.lit (.bool true)], args := [d1, d2, d3, d4] }
  | _ => none }
def triRestRow : OpenClaim := { program := "ytdonecohnemomaa", sum := "30d5974a8fa8350dfcb9c1f34cd5a449a8e562a9d45292fd4338ed04e87926b5", func := "vernier/vernierlaw22.TriRest", spec := "triRest", inPlace := ["math/bits.Sub64"], unfollowed := true, recurses := true, named := ["math/bits.divideError", "math/bits.overflowError"], apart := false }
def TriRestSaid : Prop := triRestRow.holds Try.pinned (OpenSpec.ofChange triRestSpec)

/-- ITS FALSE NEIGHBOUR: 'it returns false'. Refute it at one input. -/
def triRestWrong : ChangeSpec := { name := "triRest", fn := fun _ => fun
  | [d1, d2, d3, d4] => { results := [.lit (.bool false)], args := [d1, d2, d3, d4] }
  | _ => none }
def TriRestWrongFalsely : Prop := triRestRow.holds Try.pinned (OpenSpec.ofChange triRestWrong)

/-- 'vernierlaw26.WinogradTells': WHATEVER THE INPUT: true; the input reads as it did. -/
def winogradTellsSpec : ChangeSpec := { name := "winogradTells", fn := fun _ => fun
  | [d1, d2, d3] => { results := [.lit (.bool true)], args := [d1, d2, d3] }
  | _ => none }
def winogradTellsRow : OpenClaim := { program := "ytdonecohnemomaa", sum := "30d5974a8fa8350dfcb9c1f34cd5a449a8e562a9d45292fd4338ed04e87926b5", func := "vernier/vernierlaw26.WinogradTells", spec := "winogradTells", inPlace := ["math/bits.Sub64"], unfollowed := true, recurses := true, apart := false }
def WinogradTellsSaid : Prop := winogradTellsRow.holds Try.pinned (OpenSpec.ofChange winogradTellsSpec)

/-- ITS FALSE NEIGHBOUR: 'it returns false'. Refute it at one input. -/
def winogradTellsWrong : ChangeSpec := { name := "winogradTells", fn := fun _ => fun
  | [d1, d2, d3] => { results := [.lit (.bool false)], args := [d1, d2, d3] }
  | _ => none }
def WinogradTellsWrongFalsely : Prop := winogradTellsRow.holds Try.pinned (OpenSpec.ofChange winogradTellsWrong)

/-- 'vernierlaw26.WinogradPlain': WHATEVER THE INPUT: true; the input reads as it did. -/
def winogradPlainSpec : ChangeSpec := { name := "winogradPlain", fn := fun _ => fun
  | [d1, d2] => { results := [.lit (.bool true)], args := [d1, d2] }
  | _ => none }
def winogradPlainRow : OpenClaim := { program := "ytdonecohnemomaa", sum := "30d5974a8fa8350dfcb9c1f34cd5a449a8e562a9d45292fd4338ed04e87926b5", func := "vernier/vernierlaw26.WinogradPlain", spec := "winogradPlain", inPlace := ["math/bits.Sub64"], unfollowed := true, recurses := true, apart := false }
def WinogradPlainSaid : Prop := winogradPlainRow.holds Try.pinned (OpenSpec.ofChange winogradPlainSpec)

/-- ITS FALSE NEIGHBOUR: 'it returns false'. Refute it at one input. -/
def winogradPlainWrong : ChangeSpec := { name := "winogradPlain", fn := fun _ => fun
  | [d1, d2] => { results := [.lit (.bool false)], args := [d1, d2] }
  | _ => none }
def WinogradPlainWrongFalsely : Prop := winogradPlainRow.holds Try.pinned (OpenSpec.ofChange winogradPlainWrong)

/-- 'vernierlaw26.WinogradArena': WHATEVER THE INPUT: true; the input reads as it did. -/
def winogradArenaSpec : ChangeSpec := { name := "winogradArena", fn := fun _ => fun
  | [d1, d2, d3, d4, d5] => { results := [.lit (.bool true)], args := [d1, d2, d3, d4, d5] }
  | _ => none }
def winogradArenaRow : OpenClaim := { program := "ytdonecohnemomaa", sum := "30d5974a8fa8350dfcb9c1f34cd5a449a8e562a9d45292fd4338ed04e87926b5", func := "vernier/vernierlaw26.WinogradArena", spec := "winogradArena", inPlace := ["math/bits.Sub64"], unfollowed := true, recurses := true, apart := false }
def WinogradArenaSaid : Prop := winogradArenaRow.holds Try.pinned (OpenSpec.ofChange winogradArenaSpec)

/-- ITS FALSE NEIGHBOUR: 'it returns false'. Refute it at one input. -/
def winogradArenaWrong : ChangeSpec := { name := "winogradArena", fn := fun _ => fun
  | [d1, d2, d3, d4, d5] => { results := [.lit (.bool false)], args := [d1, d2, d3, d4, d5] }
  | _ => none }
def WinogradArenaWrongFalsely : Prop := winogradArenaRow.holds Try.pinned (OpenSpec.ofChange winogradArenaWrong)

/-- 'vernierlaw26.WinogradNeeds': WHATEVER THE INPUT: true; the input reads as it did. -/
def winogradNeedsSpec : ChangeSpec := { name := "winogradNeeds", fn := fun _ => fun
  | [d1, d2, d3, d4] => { results := [.lit (.bool true)], args := [d1, d2, d3, d4] }
  | _ => none }
def winogradNeedsRow : OpenClaim := { program := "ytdonecohnemomaa", sum := "30d5974a8fa8350dfcb9c1f34cd5a449a8e562a9d45292fd4338ed04e87926b5", func := "vernier/vernierlaw26.WinogradNeeds", spec := "winogradNeeds", inPlace := ["math/bits.Sub64"], unfollowed := true, recurses := true, apart := false }
def WinogradNeedsSaid : Prop := winogradNeedsRow.holds Try.pinned (OpenSpec.ofChange winogradNeedsSpec)

/-- ITS FALSE NEIGHBOUR: 'it returns false'. Refute it at one input. -/
def winogradNeedsWrong : ChangeSpec := { name := "winogradNeeds", fn := fun _ => fun
  | [d1, d2, d3, d4] => { results := [.lit (.bool false)], args := [d1, d2, d3, d4] }
  | _ => none }
def WinogradNeedsWrongFalsely : Prop := winogradNeedsRow.holds Try.pinned (OpenSpec.ofChange winogradNeedsWrong)

/-- 'vernierlaw26.WinogradWhole': WHATEVER THE INPUT: true; the input reads as it did. -/
def winogradWholeSpec : ChangeSpec := { name := "winogradWhole", fn := fun _ => fun
  | [d1, d2, d3, d4, d5] => { results := [.lit (.bool true)], args := [d1, d2, d3, d4, d5] }
  | _ => none }
def winogradWholeRow : OpenClaim := { program := "ytdonecohnemomaa", sum := "30d5974a8fa8350dfcb9c1f34cd5a449a8e562a9d45292fd4338ed04e87926b5", func := "vernier/vernierlaw26.WinogradWhole", spec := "winogradWhole", inPlace := ["math/bits.Sub64"], unfollowed := true, recurses := true, apart := false }
def WinogradWholeSaid : Prop := winogradWholeRow.holds Try.pinned (OpenSpec.ofChange winogradWholeSpec)

/-- ITS FALSE NEIGHBOUR: 'it returns false'. Refute it at one input. -/
def winogradWholeWrong : ChangeSpec := { name := "winogradWhole", fn := fun _ => fun
  | [d1, d2, d3, d4, d5] => { results := [.lit (.bool false)], args := [d1, d2, d3, d4, d5] }
  | _ => none }
def WinogradWholeWrongFalsely : Prop := winogradWholeRow.holds Try.pinned (OpenSpec.ofChange winogradWholeWrong)

/-- 'vernierlaw28.MwinoTells': WHATEVER THE INPUT: true; the input reads as it did. -/
def mwinoTellsSpec : ChangeSpec := { name := "mwinoTells", fn := fun _ => fun
  | [d1, d2, d3, d4, d5, d6, d7] => { results := [.lit (.bool true)], args := [d1, d2, d3, d4, d5, d6, d7] }
  | _ => none }
def mwinoTellsRow : OpenClaim := { program := "ytdonecohnemomaa", sum := "30d5974a8fa8350dfcb9c1f34cd5a449a8e562a9d45292fd4338ed04e87926b5", func := "vernier/vernierlaw28.MwinoTells", spec := "mwinoTells", inPlace := ["math/bits.Sub64"], unfollowed := true, recurses := true, apart := false }
def MwinoTellsSaid : Prop := mwinoTellsRow.holds Try.pinned (OpenSpec.ofChange mwinoTellsSpec)

/-- ITS FALSE NEIGHBOUR: 'it returns false'. Refute it at one input. -/
def mwinoTellsWrong : ChangeSpec := { name := "mwinoTells", fn := fun _ => fun
  | [d1, d2, d3, d4, d5, d6, d7] => { results := [.lit (.bool false)], args := [d1, d2, d3, d4, d5, d6, d7] }
  | _ => none }
def MwinoTellsWrongFalsely : Prop := mwinoTellsRow.holds Try.pinned (OpenSpec.ofChange mwinoTellsWrong)

/-- 'vernierlaw28.MwinoPlain': WHATEVER THE INPUT: true; the input reads as it did. -/
def mwinoPlainSpec : ChangeSpec := { name := "mwinoPlain", fn := fun _ => fun
  | [d1, d2, d3, d4, d5] => { results := [.lit (.bool true)], args := [d1, d2, d3, d4, d5] }
  | _ => none }
def mwinoPlainRow : OpenClaim := { program := "ytdonecohnemomaa", sum := "30d5974a8fa8350dfcb9c1f34cd5a449a8e562a9d45292fd4338ed04e87926b5", func := "vernier/vernierlaw28.MwinoPlain", spec := "mwinoPlain", inPlace := ["math/bits.Sub64"], unfollowed := true, recurses := true, apart := false }
def MwinoPlainSaid : Prop := mwinoPlainRow.holds Try.pinned (OpenSpec.ofChange mwinoPlainSpec)

/-- ITS FALSE NEIGHBOUR: 'it returns false'. Refute it at one input. -/
def mwinoPlainWrong : ChangeSpec := { name := "mwinoPlain", fn := fun _ => fun
  | [d1, d2, d3, d4, d5] => { results := [.lit (.bool false)], args := [d1, d2, d3, d4, d5] }
  | _ => none }
def MwinoPlainWrongFalsely : Prop := mwinoPlainRow.holds Try.pinned (OpenSpec.ofChange mwinoPlainWrong)

/- THE SECOND FORM. 'bulk': how many values and letters a reading holds, each counted each time it is reached (what is shared counts as often as it is met; a slice's spare places count too). A statement '..UptoSaid' is the law's where the arguments, and the package variables that the reading takes, are together of bulk at most 1048576: NARROWER than '..Said'. Prove '..Said' where nothing that the law and all that it calls make is longer than what came in: it says more and counts as full. Else prove '..UptoSaid'. A law counts once. -/
mutual
def uptoBulk {H : Type} : DataW H → Nat
  | .lit (.string bytes) => bytes.length + 1
  | .lit _ => 1
  | .nil => 1
  | .ptr d => uptoBulk d + 1
  | .slice elems spare => uptoBulkAll elems + uptoBulkAll spare + 1
  | .agg parts => uptoBulkAll parts + 1
  | .iface _ d => uptoBulk d + 1
  | .map entries => uptoBulkEntries entries + 1
  | .held _ => 1
def uptoBulkAll {H : Type} : List (DataW H) → Nat
  | [] => 0
  | d :: r => uptoBulk d + uptoBulkAll r
def uptoBulkEntries {H : Type} : List (Lit × DataW H) → Nat
  | [] => 0
  | x :: r => uptoBulkEntry x + uptoBulkEntries r
def uptoBulkEntry {H : Type} : Lit × DataW H → Nat
  | (.string bytes, d) => bytes.length + uptoBulk d + 1
  | (_, d) => uptoBulk d + 1
 end
def uptoSmall : (H : Type) → List (DataW H) → Bool := fun _ ds => decide (uptoBulkAll ds ≤ 1048576)
def OpenSpec.upto (s : _root_.Go.ChangeSpec) : _root_.Go.OpenSpec := { _root_.Go.OpenSpec.ofChange s with cond := some uptoSmall }

/-- 'vernierlaw24.PivotTells', WHERE WHAT IT READS IS OF BULK AT MOST 1048576: true; the input reads as it did. -/
def pivotTellsUptoRow : OpenClaim := { program := "ytdonecohnemomaa", sum := "30d5974a8fa8350dfcb9c1f34cd5a449a8e562a9d45292fd4338ed04e87926b5", func := "vernier/vernierlaw24.PivotTells", spec := "pivotTells", unfollowed := true, recurses := true, apart := false, narrowed := true }
def PivotTellsUptoSaid : Prop := pivotTellsUptoRow.holds Try.pinned (OpenSpec.upto pivotTellsSpec)

/-- 'vernierlaw24.PivotBack', WHERE WHAT IT READS IS OF BULK AT MOST 1048576: true; the input reads as it did. -/
def pivotBackUptoRow : OpenClaim := { program := "ytdonecohnemomaa", sum := "30d5974a8fa8350dfcb9c1f34cd5a449a8e562a9d45292fd4338ed04e87926b5", func := "vernier/vernierlaw24.PivotBack", spec := "pivotBack", unfollowed := true, recurses := true, apart := false, narrowed := true }
def PivotBackUptoSaid : Prop := pivotBackUptoRow.holds Try.pinned (OpenSpec.upto pivotBackSpec)

/-- 'vernierlaw22.TriTells', WHERE WHAT IT READS IS OF BULK AT MOST 1048576: true; the input reads as it did. -/
def triTellsUptoRow : OpenClaim := { program := "ytdonecohnemomaa", sum := "30d5974a8fa8350dfcb9c1f34cd5a449a8e562a9d45292fd4338ed04e87926b5", func := "vernier/vernierlaw22.TriTells", spec := "triTells", inPlace := ["math/bits.Sub64"], unfollowed := true, recurses := true, named := ["math/bits.divideError", "math/bits.overflowError"], apart := false, narrowed := true }
def TriTellsUptoSaid : Prop := triTellsUptoRow.holds Try.pinned (OpenSpec.upto triTellsSpec)

/-- 'vernierlaw22.TriHalves', WHERE WHAT IT READS IS OF BULK AT MOST 1048576: true; the input reads as it did. -/
def triHalvesUptoRow : OpenClaim := { program := "ytdonecohnemomaa", sum := "30d5974a8fa8350dfcb9c1f34cd5a449a8e562a9d45292fd4338ed04e87926b5", func := "vernier/vernierlaw22.TriHalves", spec := "triHalves", inPlace := ["math/bits.Sub64"], unfollowed := true, recurses := true, named := ["math/bits.divideError", "math/bits.overflowError"], apart := false, narrowed := true }
def TriHalvesUptoSaid : Prop := triHalvesUptoRow.holds Try.pinned (OpenSpec.upto triHalvesSpec)

/-- 'vernierlaw22.TriRest', WHERE WHAT IT READS IS OF BULK AT MOST 1048576: true; the input reads as it did. -/
def triRestUptoRow : OpenClaim := { program := "ytdonecohnemomaa", sum := "30d5974a8fa8350dfcb9c1f34cd5a449a8e562a9d45292fd4338ed04e87926b5", func := "vernier/vernierlaw22.TriRest", spec := "triRest", inPlace := ["math/bits.Sub64"], unfollowed := true, recurses := true, named := ["math/bits.divideError", "math/bits.overflowError"], apart := false, narrowed := true }
def TriRestUptoSaid : Prop := triRestUptoRow.holds Try.pinned (OpenSpec.upto triRestSpec)

/-- 'vernierlaw26.WinogradTells', WHERE WHAT IT READS IS OF BULK AT MOST 1048576: true; the input reads as it did. -/
def winogradTellsUptoRow : OpenClaim := { program := "ytdonecohnemomaa", sum := "30d5974a8fa8350dfcb9c1f34cd5a449a8e562a9d45292fd4338ed04e87926b5", func := "vernier/vernierlaw26.WinogradTells", spec := "winogradTells", inPlace := ["math/bits.Sub64"], unfollowed := true, recurses := true, apart := false, narrowed := true }
def WinogradTellsUptoSaid : Prop := winogradTellsUptoRow.holds Try.pinned (OpenSpec.upto winogradTellsSpec)

/-- 'vernierlaw26.WinogradPlain', WHERE WHAT IT READS IS OF BULK AT MOST 1048576: true; the input reads as it did. -/
def winogradPlainUptoRow : OpenClaim := { program := "ytdonecohnemomaa", sum := "30d5974a8fa8350dfcb9c1f34cd5a449a8e562a9d45292fd4338ed04e87926b5", func := "vernier/vernierlaw26.WinogradPlain", spec := "winogradPlain", inPlace := ["math/bits.Sub64"], unfollowed := true, recurses := true, apart := false, narrowed := true }
def WinogradPlainUptoSaid : Prop := winogradPlainUptoRow.holds Try.pinned (OpenSpec.upto winogradPlainSpec)

/-- 'vernierlaw26.WinogradArena', WHERE WHAT IT READS IS OF BULK AT MOST 1048576: true; the input reads as it did. -/
def winogradArenaUptoRow : OpenClaim := { program := "ytdonecohnemomaa", sum := "30d5974a8fa8350dfcb9c1f34cd5a449a8e562a9d45292fd4338ed04e87926b5", func := "vernier/vernierlaw26.WinogradArena", spec := "winogradArena", inPlace := ["math/bits.Sub64"], unfollowed := true, recurses := true, apart := false, narrowed := true }
def WinogradArenaUptoSaid : Prop := winogradArenaUptoRow.holds Try.pinned (OpenSpec.upto winogradArenaSpec)

/-- 'vernierlaw26.WinogradNeeds', WHERE WHAT IT READS IS OF BULK AT MOST 1048576: true; the input reads as it did. -/
def winogradNeedsUptoRow : OpenClaim := { program := "ytdonecohnemomaa", sum := "30d5974a8fa8350dfcb9c1f34cd5a449a8e562a9d45292fd4338ed04e87926b5", func := "vernier/vernierlaw26.WinogradNeeds", spec := "winogradNeeds", inPlace := ["math/bits.Sub64"], unfollowed := true, recurses := true, apart := false, narrowed := true }
def WinogradNeedsUptoSaid : Prop := winogradNeedsUptoRow.holds Try.pinned (OpenSpec.upto winogradNeedsSpec)

/-- 'vernierlaw26.WinogradWhole', WHERE WHAT IT READS IS OF BULK AT MOST 1048576: true; the input reads as it did. -/
def winogradWholeUptoRow : OpenClaim := { program := "ytdonecohnemomaa", sum := "30d5974a8fa8350dfcb9c1f34cd5a449a8e562a9d45292fd4338ed04e87926b5", func := "vernier/vernierlaw26.WinogradWhole", spec := "winogradWhole", inPlace := ["math/bits.Sub64"], unfollowed := true, recurses := true, apart := false, narrowed := true }
def WinogradWholeUptoSaid : Prop := winogradWholeUptoRow.holds Try.pinned (OpenSpec.upto winogradWholeSpec)

/-- 'vernierlaw28.MwinoTells', WHERE WHAT IT READS IS OF BULK AT MOST 1048576: true; the input reads as it did. -/
def mwinoTellsUptoRow : OpenClaim := { program := "ytdonecohnemomaa", sum := "30d5974a8fa8350dfcb9c1f34cd5a449a8e562a9d45292fd4338ed04e87926b5", func := "vernier/vernierlaw28.MwinoTells", spec := "mwinoTells", inPlace := ["math/bits.Sub64"], unfollowed := true, recurses := true, apart := false, narrowed := true }
def MwinoTellsUptoSaid : Prop := mwinoTellsUptoRow.holds Try.pinned (OpenSpec.upto mwinoTellsSpec)

/-- 'vernierlaw28.MwinoPlain', WHERE WHAT IT READS IS OF BULK AT MOST 1048576: true; the input reads as it did. -/
def mwinoPlainUptoRow : OpenClaim := { program := "ytdonecohnemomaa", sum := "30d5974a8fa8350dfcb9c1f34cd5a449a8e562a9d45292fd4338ed04e87926b5", func := "vernier/vernierlaw28.MwinoPlain", spec := "mwinoPlain", inPlace := ["math/bits.Sub64"], unfollowed := true, recurses := true, apart := false, narrowed := true }
def MwinoPlainUptoSaid : Prop := mwinoPlainUptoRow.holds Try.pinned (OpenSpec.upto mwinoPlainSpec)

end Rows
end Go.Proofs.Ytdonecohnemomaa
