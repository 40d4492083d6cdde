/-
  No cell of these rows narrows 'for every input' (looked for: loops, veiled, ifaces, maps, wideKeys, modest, calm, conditions, laid).
  DERIVED. THE GIVEN ROWS OF THIS SEAT. 12 by the template 'for every input the law returns true; each argument reads behind the call as it read before'; 0 by the template 'total and deterministic' (their statements: YtaefalmabphadabTotals.lean).
  GIVEN WITH THE SEED: the statements are not yours to turn. If you find one false, say at which input.
  Laid BY PROGRAM, IN A SANDBOX (cutbox-rows.mjs): the forced cells as the released guide's own fill.sh prints them over the translation 99dd00d7b7f9d04c… (all of the seat's roots in one cut). By AI agents, Wed Nov 11 2026. No macro, syntax, notation, axiom, sorry.
-/
import Derived.Test.YtaefalmabphadabChecked
import GoSem.Claim
import GoSem.ClaimJoined
import GoSem.ClaimMapViews
import Derived.JoinedTies
import Derived.KernelRfl
namespace Go.Proofs.Ytaefalmabphadab
/- THE CELL 'sum', in the pinned program and in every row, IS THE sha256 OF THE DUMP (.gsa) THAT YtaefalmabphadabProg.lean LOADS. Nothing in Lean hashes anything: it is a label: what it is worth is what the hold of that sum in a sandbox is worth. -/
noncomputable def Try.pinned : Pinned := { name := "ytaefalmabphadab", sum := "99dd00d7b7f9d04cf3e8485d6be463410f91da37941705c40948cfa6c966f670", checked := Try.checked }
namespace Rows
def none {H : Type} : Left H := { results := [], args := [] }

/-- 'vernierlaw17.PermOdd': WHATEVER THE INPUT: true; the input reads as it did. -/
def permOddSpec : ChangeSpec := { name := "permOdd", fn := fun _ => fun
  | [d1, d2] => { results := [.lit (.bool true)], args := [d1, d2] }
  | _ => none }
def permOddRow : OpenClaim := { program := "ytaefalmabphadab", sum := "99dd00d7b7f9d04cf3e8485d6be463410f91da37941705c40948cfa6c966f670", func := "vernier/vernierlaw17.PermOdd", spec := "permOdd", unfollowed := true, recurses := true, apart := false }
def PermOddSaid : Prop := permOddRow.holds Try.pinned (OpenSpec.ofChange permOddSpec)

/-- ITS FALSE NEIGHBOUR: 'it returns false'. Refute it at one input. -/
def permOddWrong : ChangeSpec := { name := "permOdd", fn := fun _ => fun
  | [d1, d2] => { results := [.lit (.bool false)], args := [d1, d2] }
  | _ => none }
def PermOddWrongFalsely : Prop := permOddRow.holds Try.pinned (OpenSpec.ofChange permOddWrong)

/-- 'vernierlaw18.ArenaRuns': WHATEVER THE INPUT: true; the input reads as it did. -/
def arenaRunsSpec : ChangeSpec := { name := "arenaRuns", fn := fun _ => fun
  | [d1, d2] => { results := [.lit (.bool true)], args := [d1, d2] }
  | _ => none }
def arenaRunsRow : OpenClaim := { program := "ytaefalmabphadab", sum := "99dd00d7b7f9d04cf3e8485d6be463410f91da37941705c40948cfa6c966f670", func := "vernier/vernierlaw18.ArenaRuns", spec := "arenaRuns", apart := false }
def ArenaRunsSaid : Prop := arenaRunsRow.holds Try.pinned (OpenSpec.ofChange arenaRunsSpec)

/-- ITS FALSE NEIGHBOUR: 'it returns false'. Refute it at one input. -/
def arenaRunsWrong : ChangeSpec := { name := "arenaRuns", fn := fun _ => fun
  | [d1, d2] => { results := [.lit (.bool false)], args := [d1, d2] }
  | _ => none }
def ArenaRunsWrongFalsely : Prop := arenaRunsRow.holds Try.pinned (OpenSpec.ofChange arenaRunsWrong)

/-- 'vernierlaw18.ArenaApart': WHATEVER THE INPUT: true; the input reads as it did. -/
def arenaApartSpec : ChangeSpec := { name := "arenaApart", fn := fun _ => fun
  | [d1, d2, d3, d4] => { results := [.lit (.bool true)], args := [d1, d2, d3, d4] }
  | _ => none }
def arenaApartRow : OpenClaim := { program := "ytaefalmabphadab", sum := "99dd00d7b7f9d04cf3e8485d6be463410f91da37941705c40948cfa6c966f670", func := "vernier/vernierlaw18.ArenaApart", spec := "arenaApart", apart := false }
def ArenaApartSaid : Prop := arenaApartRow.holds Try.pinned (OpenSpec.ofChange arenaApartSpec)

/-- ITS FALSE NEIGHBOUR: 'it returns false'. Refute it at one input. -/
def arenaApartWrong : ChangeSpec := { name := "arenaApart", fn := fun _ => fun
  | [d1, d2, d3, d4] => { results := [.lit (.bool false)], args := [d1, d2, d3, d4] }
  | _ => none }
def ArenaApartWrongFalsely : Prop := arenaApartRow.holds Try.pinned (OpenSpec.ofChange arenaApartWrong)

/-- 'vernierlaw18.ArenaLends': WHATEVER THE INPUT: true; the input reads as it did. -/
def arenaLendsSpec : ChangeSpec := { name := "arenaLends", fn := fun _ => fun
  | [d1, d2] => { results := [.lit (.bool true)], args := [d1, d2] }
  | _ => none }
def arenaLendsRow : OpenClaim := { program := "ytaefalmabphadab", sum := "99dd00d7b7f9d04cf3e8485d6be463410f91da37941705c40948cfa6c966f670", func := "vernier/vernierlaw18.ArenaLends", spec := "arenaLends", apart := false }
def ArenaLendsSaid : Prop := arenaLendsRow.holds Try.pinned (OpenSpec.ofChange arenaLendsSpec)

/-- ITS FALSE NEIGHBOUR: 'it returns false'. Refute it at one input. -/
def arenaLendsWrong : ChangeSpec := { name := "arenaLends", fn := fun _ => fun
  | [d1, d2] => { results := [.lit (.bool false)], args := [d1, d2] }
  | _ => none }
def ArenaLendsWrongFalsely : Prop := arenaLendsRow.holds Try.pinned (OpenSpec.ofChange arenaLendsWrong)

/-- 'vernierlaw19.VecTells': WHATEVER THE INPUT: true; the input reads as it did. -/
def vecTellsSpec : ChangeSpec := { name := "vecTells", fn := fun _ => fun
  | [d1, d2, d3] => { results := [.lit (.bool true)], args := [d1, d2, d3] }
  | _ => none }
def vecTellsRow : OpenClaim := { program := "ytaefalmabphadab", sum := "99dd00d7b7f9d04cf3e8485d6be463410f91da37941705c40948cfa6c966f670", func := "vernier/vernierlaw19.VecTells", spec := "vecTells", inPlace := ["math/bits.Sub64"], unfollowed := true, recurses := true, apart := false }
def VecTellsSaid : Prop := vecTellsRow.holds Try.pinned (OpenSpec.ofChange vecTellsSpec)

/-- ITS FALSE NEIGHBOUR: 'it returns false'. Refute it at one input. -/
def vecTellsWrong : ChangeSpec := { name := "vecTells", fn := fun _ => fun
  | [d1, d2, d3] => { results := [.lit (.bool false)], args := [d1, d2, d3] }
  | _ => none }
def VecTellsWrongFalsely : Prop := vecTellsRow.holds Try.pinned (OpenSpec.ofChange vecTellsWrong)

/-- 'vernierlaw19.VecLargest': WHATEVER THE INPUT: true; the input reads as it did. -/
def vecLargestSpec : ChangeSpec := { name := "vecLargest", fn := fun _ => fun
  | [d] => { results := [.lit (.bool true)], args := [d] }
  | _ => none }
def vecLargestRow : OpenClaim := { program := "ytaefalmabphadab", sum := "99dd00d7b7f9d04cf3e8485d6be463410f91da37941705c40948cfa6c966f670", func := "vernier/vernierlaw19.VecLargest", spec := "vecLargest", inPlace := ["math/bits.Sub64"], unfollowed := true, recurses := true, apart := false }
def VecLargestSaid : Prop := vecLargestRow.holds Try.pinned (OpenSpec.ofChange vecLargestSpec)

/-- ITS FALSE NEIGHBOUR: 'it returns false'. Refute it at one input. -/
def vecLargestWrong : ChangeSpec := { name := "vecLargest", fn := fun _ => fun
  | [d] => { results := [.lit (.bool false)], args := [d] }
  | _ => none }
def VecLargestWrongFalsely : Prop := vecLargestRow.holds Try.pinned (OpenSpec.ofChange vecLargestWrong)

/-- 'vernierlaw19.VecOwn': WHATEVER THE INPUT: true; the input reads as it did. -/
def vecOwnSpec : ChangeSpec := { name := "vecOwn", fn := fun _ => fun
  | [d1, d2, d3] => { results := [.lit (.bool true)], args := [d1, d2, d3] }
  | _ => none }
def vecOwnRow : OpenClaim := { program := "ytaefalmabphadab", sum := "99dd00d7b7f9d04cf3e8485d6be463410f91da37941705c40948cfa6c966f670", func := "vernier/vernierlaw19.VecOwn", spec := "vecOwn", inPlace := ["math/bits.Sub64"], unfollowed := true, recurses := true, apart := false }
def VecOwnSaid : Prop := vecOwnRow.holds Try.pinned (OpenSpec.ofChange vecOwnSpec)

/-- ITS FALSE NEIGHBOUR: 'it returns false'. Refute it at one input. -/
def vecOwnWrong : ChangeSpec := { name := "vecOwn", fn := fun _ => fun
  | [d1, d2, d3] => { results := [.lit (.bool false)], args := [d1, d2, d3] }
  | _ => none }
def VecOwnWrongFalsely : Prop := vecOwnRow.holds Try.pinned (OpenSpec.ofChange vecOwnWrong)

/-- 'vernierlaw20.MatTells': WHATEVER THE INPUT: true; the input reads as it did. -/
def matTellsSpec : ChangeSpec := { name := "matTells", fn := fun _ => fun
  | [d1, d2, d3] => { results := [.lit (.bool true)], args := [d1, d2, d3] }
  | _ => none }
def matTellsRow : OpenClaim := { program := "ytaefalmabphadab", sum := "99dd00d7b7f9d04cf3e8485d6be463410f91da37941705c40948cfa6c966f670", func := "vernier/vernierlaw20.MatTells", spec := "matTells", inPlace := ["math/bits.Sub64"], unfollowed := true, recurses := true, apart := false }
def MatTellsSaid : Prop := matTellsRow.holds Try.pinned (OpenSpec.ofChange matTellsSpec)

/-- ITS FALSE NEIGHBOUR: 'it returns false'. Refute it at one input. -/
def matTellsWrong : ChangeSpec := { name := "matTells", fn := fun _ => fun
  | [d1, d2, d3] => { results := [.lit (.bool false)], args := [d1, d2, d3] }
  | _ => none }
def MatTellsWrongFalsely : Prop := matTellsRow.holds Try.pinned (OpenSpec.ofChange matTellsWrong)

/-- 'vernierlaw20.MatColumns': WHATEVER THE INPUT: true; the input reads as it did. -/
def matColumnsSpec : ChangeSpec := { name := "matColumns", fn := fun _ => fun
  | [d1, d2, d3] => { results := [.lit (.bool true)], args := [d1, d2, d3] }
  | _ => none }
def matColumnsRow : OpenClaim := { program := "ytaefalmabphadab", sum := "99dd00d7b7f9d04cf3e8485d6be463410f91da37941705c40948cfa6c966f670", func := "vernier/vernierlaw20.MatColumns", spec := "matColumns", inPlace := ["math/bits.Sub64"], unfollowed := true, recurses := true, apart := false }
def MatColumnsSaid : Prop := matColumnsRow.holds Try.pinned (OpenSpec.ofChange matColumnsSpec)

/-- ITS FALSE NEIGHBOUR: 'it returns false'. Refute it at one input. -/
def matColumnsWrong : ChangeSpec := { name := "matColumns", fn := fun _ => fun
  | [d1, d2, d3] => { results := [.lit (.bool false)], args := [d1, d2, d3] }
  | _ => none }
def MatColumnsWrongFalsely : Prop := matColumnsRow.holds Try.pinned (OpenSpec.ofChange matColumnsWrong)

/-- 'vernierlaw20.MatParts': WHATEVER THE INPUT: true; the input reads as it did. -/
def matPartsSpec : ChangeSpec := { name := "matParts", fn := fun _ => fun
  | [d1, d2, d3, d4, d5, d6] => { results := [.lit (.bool true)], args := [d1, d2, d3, d4, d5, d6] }
  | _ => none }
def matPartsRow : OpenClaim := { program := "ytaefalmabphadab", sum := "99dd00d7b7f9d04cf3e8485d6be463410f91da37941705c40948cfa6c966f670", func := "vernier/vernierlaw20.MatParts", spec := "matParts", inPlace := ["math/bits.Sub64"], unfollowed := true, recurses := true, apart := false }
def MatPartsSaid : Prop := matPartsRow.holds Try.pinned (OpenSpec.ofChange matPartsSpec)

/-- ITS FALSE NEIGHBOUR: 'it returns false'. Refute it at one input. -/
def matPartsWrong : ChangeSpec := { name := "matParts", fn := fun _ => fun
  | [d1, d2, d3, d4, d5, d6] => { results := [.lit (.bool false)], args := [d1, d2, d3, d4, d5, d6] }
  | _ => none }
def MatPartsWrongFalsely : Prop := matPartsRow.holds Try.pinned (OpenSpec.ofChange matPartsWrong)

/-- 'vernierlaw21.GemmTells': WHATEVER THE INPUT: true; the input reads as it did. -/
def gemmTellsSpec : ChangeSpec := { name := "gemmTells", fn := fun _ => fun
  | [d1, d2] => { results := [.lit (.bool true)], args := [d1, d2] }
  | _ => none }
def gemmTellsRow : OpenClaim := { program := "ytaefalmabphadab", sum := "99dd00d7b7f9d04cf3e8485d6be463410f91da37941705c40948cfa6c966f670", func := "vernier/vernierlaw21.GemmTells", spec := "gemmTells", inPlace := ["math/bits.Sub64"], unfollowed := true, recurses := true, apart := false }
def GemmTellsSaid : Prop := gemmTellsRow.holds Try.pinned (OpenSpec.ofChange gemmTellsSpec)

/-- ITS FALSE NEIGHBOUR: 'it returns false'. Refute it at one input. -/
def gemmTellsWrong : ChangeSpec := { name := "gemmTells", fn := fun _ => fun
  | [d1, d2] => { results := [.lit (.bool false)], args := [d1, d2] }
  | _ => none }
def GemmTellsWrongFalsely : Prop := gemmTellsRow.holds Try.pinned (OpenSpec.ofChange gemmTellsWrong)

/-- 'vernierlaw21.GemmAll': WHATEVER THE INPUT: true; the input reads as it did. -/
def gemmAllSpec : ChangeSpec := { name := "gemmAll", fn := fun _ => fun
  | [d1, d2, d3, d4, d5, d6, d7] => { results := [.lit (.bool true)], args := [d1, d2, d3, d4, d5, d6, d7] }
  | _ => none }
def gemmAllRow : OpenClaim := { program := "ytaefalmabphadab", sum := "99dd00d7b7f9d04cf3e8485d6be463410f91da37941705c40948cfa6c966f670", func := "vernier/vernierlaw21.GemmAll", spec := "gemmAll", inPlace := ["math/bits.Sub64"], unfollowed := true, recurses := true, apart := false }
def GemmAllSaid : Prop := gemmAllRow.holds Try.pinned (OpenSpec.ofChange gemmAllSpec)

/-- ITS FALSE NEIGHBOUR: 'it returns false'. Refute it at one input. -/
def gemmAllWrong : ChangeSpec := { name := "gemmAll", fn := fun _ => fun
  | [d1, d2, d3, d4, d5, d6, d7] => { results := [.lit (.bool false)], args := [d1, d2, d3, d4, d5, d6, d7] }
  | _ => none }
def GemmAllWrongFalsely : Prop := gemmAllRow.holds Try.pinned (OpenSpec.ofChange gemmAllWrong)

/- THE SECOND FORM. 'bulk': how many values and letters a reading holds, each counted each time it is reached (what is shared counts as often as it is met; a slice's spare places count too). A statement '..UptoSaid' is the law's where the arguments, and the package variables that the reading takes, are together of bulk at most 1048576: NARROWER than '..Said'. Prove '..Said' where nothing that the law and all that it calls make is longer than what came in: it says more and counts as full. Else prove '..UptoSaid'. A law counts once. -/
mutual
def uptoBulk {H : Type} : DataW H → Nat
  | .lit (.string bytes) => bytes.length + 1
  | .lit _ => 1
  | .nil => 1
  | .ptr d => uptoBulk d + 1
  | .slice elems spare => uptoBulkAll elems + uptoBulkAll spare + 1
  | .agg parts => uptoBulkAll parts + 1
  | .iface _ d => uptoBulk d + 1
  | .map entries => uptoBulkEntries entries + 1
  | .held _ => 1
def uptoBulkAll {H : Type} : List (DataW H) → Nat
  | [] => 0
  | d :: r => uptoBulk d + uptoBulkAll r
def uptoBulkEntries {H : Type} : List (Lit × DataW H) → Nat
  | [] => 0
  | x :: r => uptoBulkEntry x + uptoBulkEntries r
def uptoBulkEntry {H : Type} : Lit × DataW H → Nat
  | (.string bytes, d) => bytes.length + uptoBulk d + 1
  | (_, d) => uptoBulk d + 1
 end
def uptoSmall : (H : Type) → List (DataW H) → Bool := fun _ ds => decide (uptoBulkAll ds ≤ 1048576)
def OpenSpec.upto (s : _root_.Go.ChangeSpec) : _root_.Go.OpenSpec := { _root_.Go.OpenSpec.ofChange s with cond := some uptoSmall }

/-- 'vernierlaw17.PermOdd', WHERE WHAT IT READS IS OF BULK AT MOST 1048576: true; the input reads as it did. -/
def permOddUptoRow : OpenClaim := { program := "ytaefalmabphadab", sum := "99dd00d7b7f9d04cf3e8485d6be463410f91da37941705c40948cfa6c966f670", func := "vernier/vernierlaw17.PermOdd", spec := "permOdd", unfollowed := true, recurses := true, apart := false, narrowed := true }
def PermOddUptoSaid : Prop := permOddUptoRow.holds Try.pinned (OpenSpec.upto permOddSpec)

/-- 'vernierlaw18.ArenaRuns', WHERE WHAT IT READS IS OF BULK AT MOST 1048576: true; the input reads as it did. -/
def arenaRunsUptoRow : OpenClaim := { program := "ytaefalmabphadab", sum := "99dd00d7b7f9d04cf3e8485d6be463410f91da37941705c40948cfa6c966f670", func := "vernier/vernierlaw18.ArenaRuns", spec := "arenaRuns", apart := false, narrowed := true }
def ArenaRunsUptoSaid : Prop := arenaRunsUptoRow.holds Try.pinned (OpenSpec.upto arenaRunsSpec)

/-- 'vernierlaw18.ArenaApart', WHERE WHAT IT READS IS OF BULK AT MOST 1048576: true; the input reads as it did. -/
def arenaApartUptoRow : OpenClaim := { program := "ytaefalmabphadab", sum := "99dd00d7b7f9d04cf3e8485d6be463410f91da37941705c40948cfa6c966f670", func := "vernier/vernierlaw18.ArenaApart", spec := "arenaApart", apart := false, narrowed := true }
def ArenaApartUptoSaid : Prop := arenaApartUptoRow.holds Try.pinned (OpenSpec.upto arenaApartSpec)

/-- 'vernierlaw18.ArenaLends', WHERE WHAT IT READS IS OF BULK AT MOST 1048576: true; the input reads as it did. -/
def arenaLendsUptoRow : OpenClaim := { program := "ytaefalmabphadab", sum := "99dd00d7b7f9d04cf3e8485d6be463410f91da37941705c40948cfa6c966f670", func := "vernier/vernierlaw18.ArenaLends", spec := "arenaLends", apart := false, narrowed := true }
def ArenaLendsUptoSaid : Prop := arenaLendsUptoRow.holds Try.pinned (OpenSpec.upto arenaLendsSpec)

/-- 'vernierlaw19.VecTells', WHERE WHAT IT READS IS OF BULK AT MOST 1048576: true; the input reads as it did. -/
def vecTellsUptoRow : OpenClaim := { program := "ytaefalmabphadab", sum := "99dd00d7b7f9d04cf3e8485d6be463410f91da37941705c40948cfa6c966f670", func := "vernier/vernierlaw19.VecTells", spec := "vecTells", inPlace := ["math/bits.Sub64"], unfollowed := true, recurses := true, apart := false, narrowed := true }
def VecTellsUptoSaid : Prop := vecTellsUptoRow.holds Try.pinned (OpenSpec.upto vecTellsSpec)

/-- 'vernierlaw19.VecLargest', WHERE WHAT IT READS IS OF BULK AT MOST 1048576: true; the input reads as it did. -/
def vecLargestUptoRow : OpenClaim := { program := "ytaefalmabphadab", sum := "99dd00d7b7f9d04cf3e8485d6be463410f91da37941705c40948cfa6c966f670", func := "vernier/vernierlaw19.VecLargest", spec := "vecLargest", inPlace := ["math/bits.Sub64"], unfollowed := true, recurses := true, apart := false, narrowed := true }
def VecLargestUptoSaid : Prop := vecLargestUptoRow.holds Try.pinned (OpenSpec.upto vecLargestSpec)

/-- 'vernierlaw19.VecOwn', WHERE WHAT IT READS IS OF BULK AT MOST 1048576: true; the input reads as it did. -/
def vecOwnUptoRow : OpenClaim := { program := "ytaefalmabphadab", sum := "99dd00d7b7f9d04cf3e8485d6be463410f91da37941705c40948cfa6c966f670", func := "vernier/vernierlaw19.VecOwn", spec := "vecOwn", inPlace := ["math/bits.Sub64"], unfollowed := true, recurses := true, apart := false, narrowed := true }
def VecOwnUptoSaid : Prop := vecOwnUptoRow.holds Try.pinned (OpenSpec.upto vecOwnSpec)

/-- 'vernierlaw20.MatTells', WHERE WHAT IT READS IS OF BULK AT MOST 1048576: true; the input reads as it did. -/
def matTellsUptoRow : OpenClaim := { program := "ytaefalmabphadab", sum := "99dd00d7b7f9d04cf3e8485d6be463410f91da37941705c40948cfa6c966f670", func := "vernier/vernierlaw20.MatTells", spec := "matTells", inPlace := ["math/bits.Sub64"], unfollowed := true, recurses := true, apart := false, narrowed := true }
def MatTellsUptoSaid : Prop := matTellsUptoRow.holds Try.pinned (OpenSpec.upto matTellsSpec)

/-- 'vernierlaw20.MatColumns', WHERE WHAT IT READS IS OF BULK AT MOST 1048576: true; the input reads as it did. -/
def matColumnsUptoRow : OpenClaim := { program := "ytaefalmabphadab", sum := "99dd00d7b7f9d04cf3e8485d6be463410f91da37941705c40948cfa6c966f670", func := "vernier/vernierlaw20.MatColumns", spec := "matColumns", inPlace := ["math/bits.Sub64"], unfollowed := true, recurses := true, apart := false, narrowed := true }
def MatColumnsUptoSaid : Prop := matColumnsUptoRow.holds Try.pinned (OpenSpec.upto matColumnsSpec)

/-- 'vernierlaw20.MatParts', WHERE WHAT IT READS IS OF BULK AT MOST 1048576: true; the input reads as it did. -/
def matPartsUptoRow : OpenClaim := { program := "ytaefalmabphadab", sum := "99dd00d7b7f9d04cf3e8485d6be463410f91da37941705c40948cfa6c966f670", func := "vernier/vernierlaw20.MatParts", spec := "matParts", inPlace := ["math/bits.Sub64"], unfollowed := true, recurses := true, apart := false, narrowed := true }
def MatPartsUptoSaid : Prop := matPartsUptoRow.holds Try.pinned (OpenSpec.upto matPartsSpec)

/-- 'vernierlaw21.GemmTells', WHERE WHAT IT READS IS OF BULK AT MOST 1048576: true; the input reads as it did. -/
def gemmTellsUptoRow : OpenClaim := { program := "ytaefalmabphadab", sum := "99dd00d7b7f9d04cf3e8485d6be463410f91da37941705c40948cfa6c966f670", func := "vernier/vernierlaw21.GemmTells", spec := "gemmTells", inPlace := ["math/bits.Sub64"], unfollowed := true, recurses := true, apart := false, narrowed := true }
def GemmTellsUptoSaid : Prop := gemmTellsUptoRow.holds Try.pinned (OpenSpec.upto gemmTellsSpec)

/-- 'vernierlaw21.GemmAll', WHERE WHAT IT READS IS OF BULK AT MOST 1048576: true; the input reads as it did. -/
def gemmAllUptoRow : OpenClaim := { program := "ytaefalmabphadab", sum := "99dd00d7b7f9d04cf3e8485d6be463410f91da37941705c40948cfa6c966f670", func := "vernier/vernierlaw21.GemmAll", spec := "gemmAll", inPlace := ["math/bits.Sub64"], unfollowed := true, recurses := true, apart := false, narrowed := true }
def GemmAllUptoSaid : Prop := gemmAllUptoRow.holds Try.pinned (OpenSpec.upto gemmAllSpec)

end Rows
end Go.Proofs.Ytaefalmabphadab
