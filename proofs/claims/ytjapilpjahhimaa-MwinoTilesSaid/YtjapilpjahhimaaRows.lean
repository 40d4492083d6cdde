/-
  No cell of these rows narrows 'for every input' (looked for: loops, veiled, ifaces, maps, wideKeys, modest, calm, conditions, laid).
  DERIVED. THE GIVEN ROWS OF THIS SEAT. 8 by the template 'for every input the law returns true; each argument reads behind the call as it read before'; 0 by the template 'total and deterministic' (their statements: YtjapilpjahhimaaTotals.lean).
  GIVEN WITH THE SEED: the statements are not yours to turn. If you find one false, say at which input.
  Laid BY PROGRAM, IN A SANDBOX (cutbox-rows.mjs): the forced cells as the released guide's own fill.sh prints them over the translation 978d0a1231107beb… (all of the seat's roots in one cut). By AI agents, Wed Nov 11 2026. No macro, syntax, notation, axiom, sorry.
-/
import Derived.Test.YtjapilpjahhimaaChecked
import GoSem.Claim
import GoSem.ClaimJoined
import GoSem.ClaimMapViews
import Derived.JoinedTies
import Derived.KernelRfl
namespace Go.Proofs.Ytjapilpjahhimaa
/- THE CELL 'sum', in the pinned program and in every row, IS THE sha256 OF THE DUMP (.gsa) THAT YtjapilpjahhimaaProg.lean LOADS. Nothing in Lean hashes anything: it is a label: what it is worth is what the hold of that sum in a sandbox is worth. -/
noncomputable def Try.pinned : Pinned := { name := "ytjapilpjahhimaa", sum := "978d0a1231107bebdf71b33c93ecf7249f3dc01a0e55ef31928056b7638bc6de", checked := Try.checked }
namespace Rows
def none {H : Type} : Left H := { results := [], args := [] }

/-- 'vernierlaw26.WinogradTells': WHATEVER THE INPUT: true; the input reads as it did. -/
def winogradTellsSpec : ChangeSpec := { name := "winogradTells", fn := fun _ => fun
  | [d1, d2, d3] => { results := [.lit (.bool true)], args := [d1, d2, d3] }
  | _ => none }
def winogradTellsRow : OpenClaim := { program := "ytjapilpjahhimaa", sum := "978d0a1231107bebdf71b33c93ecf7249f3dc01a0e55ef31928056b7638bc6de", func := "vernier/vernierlaw26.WinogradTells", spec := "winogradTells", inPlace := ["math/bits.Sub64"], unfollowed := true, recurses := true, apart := false }
def WinogradTellsSaid : Prop := winogradTellsRow.holds Try.pinned (OpenSpec.ofChange winogradTellsSpec)

/-- ITS FALSE NEIGHBOUR: 'it returns false'. Refute it at one input. -/
def winogradTellsWrong : ChangeSpec := { name := "winogradTells", fn := fun _ => fun
  | [d1, d2, d3] => { results := [.lit (.bool false)], args := [d1, d2, d3] }
  | _ => none }
def WinogradTellsWrongFalsely : Prop := winogradTellsRow.holds Try.pinned (OpenSpec.ofChange winogradTellsWrong)

/-- 'vernierlaw26.WinogradPlain': WHATEVER THE INPUT: true; the input reads as it did. -/
def winogradPlainSpec : ChangeSpec := { name := "winogradPlain", fn := fun _ => fun
  | [d1, d2] => { results := [.lit (.bool true)], args := [d1, d2] }
  | _ => none }
def winogradPlainRow : OpenClaim := { program := "ytjapilpjahhimaa", sum := "978d0a1231107bebdf71b33c93ecf7249f3dc01a0e55ef31928056b7638bc6de", func := "vernier/vernierlaw26.WinogradPlain", spec := "winogradPlain", inPlace := ["math/bits.Sub64"], unfollowed := true, recurses := true, apart := false }
def WinogradPlainSaid : Prop := winogradPlainRow.holds Try.pinned (OpenSpec.ofChange winogradPlainSpec)

/-- ITS FALSE NEIGHBOUR: 'it returns false'. Refute it at one input. -/
def winogradPlainWrong : ChangeSpec := { name := "winogradPlain", fn := fun _ => fun
  | [d1, d2] => { results := [.lit (.bool false)], args := [d1, d2] }
  | _ => none }
def WinogradPlainWrongFalsely : Prop := winogradPlainRow.holds Try.pinned (OpenSpec.ofChange winogradPlainWrong)

/-- 'vernierlaw26.WinogradArena': WHATEVER THE INPUT: true; the input reads as it did. -/
def winogradArenaSpec : ChangeSpec := { name := "winogradArena", fn := fun _ => fun
  | [d1, d2, d3, d4, d5] => { results := [.lit (.bool true)], args := [d1, d2, d3, d4, d5] }
  | _ => none }
def winogradArenaRow : OpenClaim := { program := "ytjapilpjahhimaa", sum := "978d0a1231107bebdf71b33c93ecf7249f3dc01a0e55ef31928056b7638bc6de", func := "vernier/vernierlaw26.WinogradArena", spec := "winogradArena", inPlace := ["math/bits.Sub64"], unfollowed := true, recurses := true, apart := false }
def WinogradArenaSaid : Prop := winogradArenaRow.holds Try.pinned (OpenSpec.ofChange winogradArenaSpec)

/-- ITS FALSE NEIGHBOUR: 'it returns false'. Refute it at one input. -/
def winogradArenaWrong : ChangeSpec := { name := "winogradArena", fn := fun _ => fun
  | [d1, d2, d3, d4, d5] => { results := [.lit (.bool false)], args := [d1, d2, d3, d4, d5] }
  | _ => none }
def WinogradArenaWrongFalsely : Prop := winogradArenaRow.holds Try.pinned (OpenSpec.ofChange winogradArenaWrong)

/-- 'vernierlaw26.WinogradNeeds': WHATEVER THE INPUT: true; the input reads as it did. -/
def winogradNeedsSpec : ChangeSpec := { name := "winogradNeeds", fn := fun _ => fun
  | [d1, d2, d3, d4] => { results := [.lit (.bool true)], args := [d1, d2, d3, d4] }
  | _ => none }
def winogradNeedsRow : OpenClaim := { program := "ytjapilpjahhimaa", sum := "978d0a1231107bebdf71b33c93ecf7249f3dc01a0e55ef31928056b7638bc6de", func := "vernier/vernierlaw26.WinogradNeeds", spec := "winogradNeeds", inPlace := ["math/bits.Sub64"], unfollowed := true, recurses := true, apart := false }
def WinogradNeedsSaid : Prop := winogradNeedsRow.holds Try.pinned (OpenSpec.ofChange winogradNeedsSpec)

/-- ITS FALSE NEIGHBOUR: 'it returns false'. Refute it at one input. -/
def winogradNeedsWrong : ChangeSpec := { name := "winogradNeeds", fn := fun _ => fun
  | [d1, d2, d3, d4] => { results := [.lit (.bool false)], args := [d1, d2, d3, d4] }
  | _ => none }
def WinogradNeedsWrongFalsely : Prop := winogradNeedsRow.holds Try.pinned (OpenSpec.ofChange winogradNeedsWrong)

/-- 'vernierlaw26.WinogradWhole': WHATEVER THE INPUT: true; the input reads as it did. -/
def winogradWholeSpec : ChangeSpec := { name := "winogradWhole", fn := fun _ => fun
  | [d1, d2, d3, d4, d5] => { results := [.lit (.bool true)], args := [d1, d2, d3, d4, d5] }
  | _ => none }
def winogradWholeRow : OpenClaim := { program := "ytjapilpjahhimaa", sum := "978d0a1231107bebdf71b33c93ecf7249f3dc01a0e55ef31928056b7638bc6de", func := "vernier/vernierlaw26.WinogradWhole", spec := "winogradWhole", inPlace := ["math/bits.Sub64"], unfollowed := true, recurses := true, apart := false }
def WinogradWholeSaid : Prop := winogradWholeRow.holds Try.pinned (OpenSpec.ofChange winogradWholeSpec)

/-- ITS FALSE NEIGHBOUR: 'it returns false'. Refute it at one input. -/
def winogradWholeWrong : ChangeSpec := { name := "winogradWhole", fn := fun _ => fun
  | [d1, d2, d3, d4, d5] => { results := [.lit (.bool false)], args := [d1, d2, d3, d4, d5] }
  | _ => none }
def WinogradWholeWrongFalsely : Prop := winogradWholeRow.holds Try.pinned (OpenSpec.ofChange winogradWholeWrong)

/-- 'vernierlaw28.MwinoTells': WHATEVER THE INPUT: true; the input reads as it did. -/
def mwinoTellsSpec : ChangeSpec := { name := "mwinoTells", fn := fun _ => fun
  | [d1, d2, d3, d4, d5, d6, d7] => { results := [.lit (.bool true)], args := [d1, d2, d3, d4, d5, d6, d7] }
  | _ => none }
def mwinoTellsRow : OpenClaim := { program := "ytjapilpjahhimaa", sum := "978d0a1231107bebdf71b33c93ecf7249f3dc01a0e55ef31928056b7638bc6de", func := "vernier/vernierlaw28.MwinoTells", spec := "mwinoTells", inPlace := ["math/bits.Sub64"], unfollowed := true, recurses := true, apart := false }
def MwinoTellsSaid : Prop := mwinoTellsRow.holds Try.pinned (OpenSpec.ofChange mwinoTellsSpec)

/-- ITS FALSE NEIGHBOUR: 'it returns false'. Refute it at one input. -/
def mwinoTellsWrong : ChangeSpec := { name := "mwinoTells", fn := fun _ => fun
  | [d1, d2, d3, d4, d5, d6, d7] => { results := [.lit (.bool false)], args := [d1, d2, d3, d4, d5, d6, d7] }
  | _ => none }
def MwinoTellsWrongFalsely : Prop := mwinoTellsRow.holds Try.pinned (OpenSpec.ofChange mwinoTellsWrong)

/-- 'vernierlaw28.MwinoPlain': WHATEVER THE INPUT: true; the input reads as it did. -/
def mwinoPlainSpec : ChangeSpec := { name := "mwinoPlain", fn := fun _ => fun
  | [d1, d2, d3, d4, d5] => { results := [.lit (.bool true)], args := [d1, d2, d3, d4, d5] }
  | _ => none }
def mwinoPlainRow : OpenClaim := { program := "ytjapilpjahhimaa", sum := "978d0a1231107bebdf71b33c93ecf7249f3dc01a0e55ef31928056b7638bc6de", func := "vernier/vernierlaw28.MwinoPlain", spec := "mwinoPlain", inPlace := ["math/bits.Sub64"], unfollowed := true, recurses := true, apart := false }
def MwinoPlainSaid : Prop := mwinoPlainRow.holds Try.pinned (OpenSpec.ofChange mwinoPlainSpec)

/-- ITS FALSE NEIGHBOUR: 'it returns false'. Refute it at one input. -/
def mwinoPlainWrong : ChangeSpec := { name := "mwinoPlain", fn := fun _ => fun
  | [d1, d2, d3, d4, d5] => { results := [.lit (.bool false)], args := [d1, d2, d3, d4, d5] }
  | _ => none }
def MwinoPlainWrongFalsely : Prop := mwinoPlainRow.holds Try.pinned (OpenSpec.ofChange mwinoPlainWrong)

/-- 'vernierlaw28.MwinoTiles': WHATEVER THE INPUT: true; the input reads as it did. -/
def mwinoTilesSpec : ChangeSpec := { name := "mwinoTiles", fn := fun _ => fun
  | [d1, d2, d3, d4, d5] => { results := [.lit (.bool true)], args := [d1, d2, d3, d4, d5] }
  | _ => none }
def mwinoTilesRow : OpenClaim := { program := "ytjapilpjahhimaa", sum := "978d0a1231107bebdf71b33c93ecf7249f3dc01a0e55ef31928056b7638bc6de", func := "vernier/vernierlaw28.MwinoTiles", spec := "mwinoTiles", inPlace := ["math/bits.Sub64"], unfollowed := true, recurses := true, apart := false }
def MwinoTilesSaid : Prop := mwinoTilesRow.holds Try.pinned (OpenSpec.ofChange mwinoTilesSpec)

/-- ITS FALSE NEIGHBOUR: 'it returns false'. Refute it at one input. -/
def mwinoTilesWrong : ChangeSpec := { name := "mwinoTiles", fn := fun _ => fun
  | [d1, d2, d3, d4, d5] => { results := [.lit (.bool false)], args := [d1, d2, d3, d4, d5] }
  | _ => none }
def MwinoTilesWrongFalsely : Prop := mwinoTilesRow.holds Try.pinned (OpenSpec.ofChange mwinoTilesWrong)

/- THE SECOND FORM. 'bulk': how many values and letters a reading holds, each counted each time it is reached (what is shared counts as often as it is met; a slice's spare places count too). A statement '..UptoSaid' is the law's where the arguments, and the package variables that the reading takes, are together of bulk at most 1048576: NARROWER than '..Said'. Prove '..Said' where nothing that the law and all that it calls make is longer than what came in: it says more and counts as full. Else prove '..UptoSaid'. A law counts once. -/
mutual
def uptoBulk {H : Type} : DataW H → Nat
  | .lit (.string bytes) => bytes.length + 1
  | .lit _ => 1
  | .nil => 1
  | .ptr d => uptoBulk d + 1
  | .slice elems spare => uptoBulkAll elems + uptoBulkAll spare + 1
  | .agg parts => uptoBulkAll parts + 1
  | .iface _ d => uptoBulk d + 1
  | .map entries => uptoBulkEntries entries + 1
  | .held _ => 1
def uptoBulkAll {H : Type} : List (DataW H) → Nat
  | [] => 0
  | d :: r => uptoBulk d + uptoBulkAll r
def uptoBulkEntries {H : Type} : List (Lit × DataW H) → Nat
  | [] => 0
  | x :: r => uptoBulkEntry x + uptoBulkEntries r
def uptoBulkEntry {H : Type} : Lit × DataW H → Nat
  | (.string bytes, d) => bytes.length + uptoBulk d + 1
  | (_, d) => uptoBulk d + 1
 end
def uptoSmall : (H : Type) → List (DataW H) → Bool := fun _ ds => decide (uptoBulkAll ds ≤ 1048576)
def OpenSpec.upto (s : _root_.Go.ChangeSpec) : _root_.Go.OpenSpec := { _root_.Go.OpenSpec.ofChange s with cond := some uptoSmall }

/-- 'vernierlaw26.WinogradTells', WHERE WHAT IT READS IS OF BULK AT MOST 1048576: true; the input reads as it did. -/
def winogradTellsUptoRow : OpenClaim := { program := "ytjapilpjahhimaa", sum := "978d0a1231107bebdf71b33c93ecf7249f3dc01a0e55ef31928056b7638bc6de", func := "vernier/vernierlaw26.WinogradTells", spec := "winogradTells", inPlace := ["math/bits.Sub64"], unfollowed := true, recurses := true, apart := false, narrowed := true }
def WinogradTellsUptoSaid : Prop := winogradTellsUptoRow.holds Try.pinned (OpenSpec.upto winogradTellsSpec)

/-- 'vernierlaw26.WinogradPlain', WHERE WHAT IT READS IS OF BULK AT MOST 1048576: true; the input reads as it did. -/
def winogradPlainUptoRow : OpenClaim := { program := "ytjapilpjahhimaa", sum := "978d0a1231107bebdf71b33c93ecf7249f3dc01a0e55ef31928056b7638bc6de", func := "vernier/vernierlaw26.WinogradPlain", spec := "winogradPlain", inPlace := ["math/bits.Sub64"], unfollowed := true, recurses := true, apart := false, narrowed := true }
def WinogradPlainUptoSaid : Prop := winogradPlainUptoRow.holds Try.pinned (OpenSpec.upto winogradPlainSpec)

/-- 'vernierlaw26.WinogradArena', WHERE WHAT IT READS IS OF BULK AT MOST 1048576: true; the input reads as it did. -/
def winogradArenaUptoRow : OpenClaim := { program := "ytjapilpjahhimaa", sum := "978d0a1231107bebdf71b33c93ecf7249f3dc01a0e55ef31928056b7638bc6de", func := "vernier/vernierlaw26.WinogradArena", spec := "winogradArena", inPlace := ["math/bits.Sub64"], unfollowed := true, recurses := true, apart := false, narrowed := true }
def WinogradArenaUptoSaid : Prop := winogradArenaUptoRow.holds Try.pinned (OpenSpec.upto winogradArenaSpec)

/-- 'vernierlaw26.WinogradNeeds', WHERE WHAT IT READS IS OF BULK AT MOST 1048576: true; the input reads as it did. -/
def winogradNeedsUptoRow : OpenClaim := { program := "ytjapilpjahhimaa", sum := "978d0a1231107bebdf71b33c93ecf7249f3dc01a0e55ef31928056b7638bc6de", func := "vernier/vernierlaw26.WinogradNeeds", spec := "winogradNeeds", inPlace := ["math/bits.Sub64"], unfollowed := true, recurses := true, apart := false, narrowed := true }
def WinogradNeedsUptoSaid : Prop := winogradNeedsUptoRow.holds Try.pinned (OpenSpec.upto winogradNeedsSpec)

/-- 'vernierlaw26.WinogradWhole', WHERE WHAT IT READS IS OF BULK AT MOST 1048576: true; the input reads as it did. -/
def winogradWholeUptoRow : OpenClaim := { program := "ytjapilpjahhimaa", sum := "978d0a1231107bebdf71b33c93ecf7249f3dc01a0e55ef31928056b7638bc6de", func := "vernier/vernierlaw26.WinogradWhole", spec := "winogradWhole", inPlace := ["math/bits.Sub64"], unfollowed := true, recurses := true, apart := false, narrowed := true }
def WinogradWholeUptoSaid : Prop := winogradWholeUptoRow.holds Try.pinned (OpenSpec.upto winogradWholeSpec)

/-- 'vernierlaw28.MwinoTells', WHERE WHAT IT READS IS OF BULK AT MOST 1048576: true; the input reads as it did. -/
def mwinoTellsUptoRow : OpenClaim := { program := "ytjapilpjahhimaa", sum := "978d0a1231107bebdf71b33c93ecf7249f3dc01a0e55ef31928056b7638bc6de", func := "vernier/vernierlaw28.MwinoTells", spec := "mwinoTells", inPlace := ["math/bits.Sub64"], unfollowed := true, recurses := true, apart := false, narrowed := true }
def MwinoTellsUptoSaid : Prop := mwinoTellsUptoRow.holds Try.pinned (OpenSpec.upto mwinoTellsSpec)

/-- 'vernierlaw28.MwinoPlain', WHERE WHAT IT READS IS OF BULK AT MOST 1048576: true; the input reads as it did. -/
def mwinoPlainUptoRow : OpenClaim := { program := "ytjapilpjahhimaa", sum := "978d0a1231107bebdf71b33c93ecf7249f3dc01a0e55ef31928056b7638bc6de", func := "vernier/vernierlaw28.MwinoPlain", spec := "mwinoPlain", inPlace := ["math/bits.Sub64"], unfollowed := true, recurses := true, apart := false, narrowed := true }
def MwinoPlainUptoSaid : Prop := mwinoPlainUptoRow.holds Try.pinned (OpenSpec.upto mwinoPlainSpec)

/-- 'vernierlaw28.MwinoTiles', WHERE WHAT IT READS IS OF BULK AT MOST 1048576: true; the input reads as it did. -/
def mwinoTilesUptoRow : OpenClaim := { program := "ytjapilpjahhimaa", sum := "978d0a1231107bebdf71b33c93ecf7249f3dc01a0e55ef31928056b7638bc6de", func := "vernier/vernierlaw28.MwinoTiles", spec := "mwinoTiles", inPlace := ["math/bits.Sub64"], unfollowed := true, recurses := true, apart := false, narrowed := true }
def MwinoTilesUptoSaid : Prop := mwinoTilesUptoRow.holds Try.pinned (OpenSpec.upto mwinoTilesSpec)

end Rows
end Go.Proofs.Ytjapilpjahhimaa
