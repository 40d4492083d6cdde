/-
  No cell of these rows narrows 'for every input' (looked for: loops, veiled, ifaces, maps, wideKeys, modest, calm, conditions, laid).
  DERIVED. THE GIVEN ROWS OF THIS SEAT. 11 by the template 'for every input the law returns true; each argument reads behind the call as it read before'; 0 by the template 'total and deterministic' (their statements: YtjiilechfjkkfaaTotals.lean).
  GIVEN WITH THE SEED: the statements are not yours to turn. If you find one false, say at which input.
  Laid BY PROGRAM, IN A SANDBOX (cutbox-rows.mjs): the forced cells as the released guide's own fill.sh prints them over the translation dedcdf6f84cff406… (all of the seat's roots in one cut). By AI agents, Wed Nov 11 2026. No macro, syntax, notation, axiom, sorry.
-/
import Derived.Test.YtjiilechfjkkfaaChecked
import GoSem.Claim
import GoSem.ClaimJoined
import GoSem.ClaimMapViews
import Derived.JoinedTies
import Derived.KernelRfl
namespace Go.Proofs.Ytjiilechfjkkfaa
/- THE CELL 'sum', in the pinned program and in every row, IS THE sha256 OF THE DUMP (.gsa) THAT YtjiilechfjkkfaaProg.lean LOADS. Nothing in Lean hashes anything: it is a label: what it is worth is what the hold of that sum in a sandbox is worth. -/
noncomputable def Try.pinned : Pinned := { name := "ytjiilechfjkkfaa", sum := "dedcdf6f84cff406b23907be11659e41bc9a316a7b4c4ef27792f3e2f5fa4824", checked := Try.checked }
namespace Rows
def none {H : Type} : Left H := { results := [], args := [] }

/-- 'vernierlaw24.PivotTells': WHATEVER THE INPUT: true; the input reads as it did. -/
def pivotTellsSpec : ChangeSpec := { name := "pivotTells", fn := fun _ => fun
  | [d1, d2, d3, d4] => { results := [.lit (.bool true)], args := [d1, d2, d3, d4] }
  | _ => none }
def pivotTellsRow : OpenClaim := { program := "ytjiilechfjkkfaa", sum := "dedcdf6f84cff406b23907be11659e41bc9a316a7b4c4ef27792f3e2f5fa4824", func := "vernier/vernierlaw24.PivotTells", spec := "pivotTells", unfollowed := true, recurses := true, apart := false }
def PivotTellsSaid : Prop := pivotTellsRow.holds Try.pinned (OpenSpec.ofChange pivotTellsSpec)

/-- ITS FALSE NEIGHBOUR: 'it returns false'. Refute it at one input. -/
def pivotTellsWrong : ChangeSpec := { name := "pivotTells", fn := fun _ => fun
  | [d1, d2, d3, d4] => { results := [.lit (.bool false)], args := [d1, d2, d3, d4] }
  | _ => none }
def PivotTellsWrongFalsely : Prop := pivotTellsRow.holds Try.pinned (OpenSpec.ofChange pivotTellsWrong)

/-- 'vernierlaw24.PivotBack': WHATEVER THE INPUT: true; the input reads as it did. -/
def pivotBackSpec : ChangeSpec := { name := "pivotBack", fn := fun _ => fun
  | [d1, d2] => { results := [.lit (.bool true)], args := [d1, d2] }
  | _ => none }
def pivotBackRow : OpenClaim := { program := "ytjiilechfjkkfaa", sum := "dedcdf6f84cff406b23907be11659e41bc9a316a7b4c4ef27792f3e2f5fa4824", func := "vernier/vernierlaw24.PivotBack", spec := "pivotBack", unfollowed := true, recurses := true, apart := false }
def PivotBackSaid : Prop := pivotBackRow.holds Try.pinned (OpenSpec.ofChange pivotBackSpec)

/-- ITS FALSE NEIGHBOUR: 'it returns false'. Refute it at one input. -/
def pivotBackWrong : ChangeSpec := { name := "pivotBack", fn := fun _ => fun
  | [d1, d2] => { results := [.lit (.bool false)], args := [d1, d2] }
  | _ => none }
def PivotBackWrongFalsely : Prop := pivotBackRow.holds Try.pinned (OpenSpec.ofChange pivotBackWrong)

/-- 'vernierlaw20.MatTells': WHATEVER THE INPUT: true; the input reads as it did. -/
def matTellsSpec : ChangeSpec := { name := "matTells", fn := fun _ => fun
  | [d1, d2, d3] => { results := [.lit (.bool true)], args := [d1, d2, d3] }
  | _ => none }
def matTellsRow : OpenClaim := { program := "ytjiilechfjkkfaa", sum := "dedcdf6f84cff406b23907be11659e41bc9a316a7b4c4ef27792f3e2f5fa4824", func := "vernier/vernierlaw20.MatTells", spec := "matTells", inPlace := ["math/bits.Sub64"], unfollowed := true, recurses := true, apart := false }
def MatTellsSaid : Prop := matTellsRow.holds Try.pinned (OpenSpec.ofChange matTellsSpec)

/-- ITS FALSE NEIGHBOUR: 'it returns false'. Refute it at one input. -/
def matTellsWrong : ChangeSpec := { name := "matTells", fn := fun _ => fun
  | [d1, d2, d3] => { results := [.lit (.bool false)], args := [d1, d2, d3] }
  | _ => none }
def MatTellsWrongFalsely : Prop := matTellsRow.holds Try.pinned (OpenSpec.ofChange matTellsWrong)

/-- 'vernierlaw20.MatColumns': WHATEVER THE INPUT: true; the input reads as it did. -/
def matColumnsSpec : ChangeSpec := { name := "matColumns", fn := fun _ => fun
  | [d1, d2, d3] => { results := [.lit (.bool true)], args := [d1, d2, d3] }
  | _ => none }
def matColumnsRow : OpenClaim := { program := "ytjiilechfjkkfaa", sum := "dedcdf6f84cff406b23907be11659e41bc9a316a7b4c4ef27792f3e2f5fa4824", func := "vernier/vernierlaw20.MatColumns", spec := "matColumns", inPlace := ["math/bits.Sub64"], unfollowed := true, recurses := true, apart := false }
def MatColumnsSaid : Prop := matColumnsRow.holds Try.pinned (OpenSpec.ofChange matColumnsSpec)

/-- ITS FALSE NEIGHBOUR: 'it returns false'. Refute it at one input. -/
def matColumnsWrong : ChangeSpec := { name := "matColumns", fn := fun _ => fun
  | [d1, d2, d3] => { results := [.lit (.bool false)], args := [d1, d2, d3] }
  | _ => none }
def MatColumnsWrongFalsely : Prop := matColumnsRow.holds Try.pinned (OpenSpec.ofChange matColumnsWrong)

/-- 'vernierlaw20.MatParts': WHATEVER THE INPUT: true; the input reads as it did. -/
def matPartsSpec : ChangeSpec := { name := "matParts", fn := fun _ => fun
  | [d1, d2, d3, d4, d5, d6] => { results := [.lit (.bool true)], args := [d1, d2, d3, d4, d5, d6] }
  | _ => none }
def matPartsRow : OpenClaim := { program := "ytjiilechfjkkfaa", sum := "dedcdf6f84cff406b23907be11659e41bc9a316a7b4c4ef27792f3e2f5fa4824", func := "vernier/vernierlaw20.MatParts", spec := "matParts", inPlace := ["math/bits.Sub64"], unfollowed := true, recurses := true, apart := false }
def MatPartsSaid : Prop := matPartsRow.holds Try.pinned (OpenSpec.ofChange matPartsSpec)

/-- ITS FALSE NEIGHBOUR: 'it returns false'. Refute it at one input. -/
def matPartsWrong : ChangeSpec := { name := "matParts", fn := fun _ => fun
  | [d1, d2, d3, d4, d5, d6] => { results := [.lit (.bool false)], args := [d1, d2, d3, d4, d5, d6] }
  | _ => none }
def MatPartsWrongFalsely : Prop := matPartsRow.holds Try.pinned (OpenSpec.ofChange matPartsWrong)

/-- 'vernierlaw23.NormTells': WHATEVER THE INPUT: true; the input reads as it did. -/
def normTellsSpec : ChangeSpec := { name := "normTells", fn := fun _ => fun
  | [d] => { results := [.lit (.bool true)], args := [d] }
  | _ => none }
def normTellsRow : OpenClaim := { program := "ytjiilechfjkkfaa", sum := "dedcdf6f84cff406b23907be11659e41bc9a316a7b4c4ef27792f3e2f5fa4824", func := "vernier/vernierlaw23.NormTells", spec := "normTells", inPlace := ["math/bits.Sub64"], unfollowed := true, recurses := true, apart := false }
def NormTellsSaid : Prop := normTellsRow.holds Try.pinned (OpenSpec.ofChange normTellsSpec)

/-- ITS FALSE NEIGHBOUR: 'it returns false'. Refute it at one input. -/
def normTellsWrong : ChangeSpec := { name := "normTells", fn := fun _ => fun
  | [d] => { results := [.lit (.bool false)], args := [d] }
  | _ => none }
def NormTellsWrongFalsely : Prop := normTellsRow.holds Try.pinned (OpenSpec.ofChange normTellsWrong)

/-- 'vernierlaw23.NormTurns': WHATEVER THE INPUT: true; the input reads as it did. -/
def normTurnsSpec : ChangeSpec := { name := "normTurns", fn := fun _ => fun
  | [d1, d2] => { results := [.lit (.bool true)], args := [d1, d2] }
  | _ => none }
def normTurnsRow : OpenClaim := { program := "ytjiilechfjkkfaa", sum := "dedcdf6f84cff406b23907be11659e41bc9a316a7b4c4ef27792f3e2f5fa4824", func := "vernier/vernierlaw23.NormTurns", spec := "normTurns", inPlace := ["math/bits.Sub64"], unfollowed := true, recurses := true, apart := false }
def NormTurnsSaid : Prop := normTurnsRow.holds Try.pinned (OpenSpec.ofChange normTurnsSpec)

/-- ITS FALSE NEIGHBOUR: 'it returns false'. Refute it at one input. -/
def normTurnsWrong : ChangeSpec := { name := "normTurns", fn := fun _ => fun
  | [d1, d2] => { results := [.lit (.bool false)], args := [d1, d2] }
  | _ => none }
def NormTurnsWrongFalsely : Prop := normTurnsRow.holds Try.pinned (OpenSpec.ofChange normTurnsWrong)

/-- 'vernierlaw23.NormLess': WHATEVER THE INPUT: true; the input reads as it did. -/
def normLessSpec : ChangeSpec := { name := "normLess", fn := fun _ => fun
  | [d] => { results := [.lit (.bool true)], args := [d] }
  | _ => none }
def normLessRow : OpenClaim := { program := "ytjiilechfjkkfaa", sum := "dedcdf6f84cff406b23907be11659e41bc9a316a7b4c4ef27792f3e2f5fa4824", func := "vernier/vernierlaw23.NormLess", spec := "normLess", inPlace := ["math/bits.Sub64"], unfollowed := true, recurses := true, apart := false }
def NormLessSaid : Prop := normLessRow.holds Try.pinned (OpenSpec.ofChange normLessSpec)

/-- ITS FALSE NEIGHBOUR: 'it returns false'. Refute it at one input. -/
def normLessWrong : ChangeSpec := { name := "normLess", fn := fun _ => fun
  | [d] => { results := [.lit (.bool false)], args := [d] }
  | _ => none }
def NormLessWrongFalsely : Prop := normLessRow.holds Try.pinned (OpenSpec.ofChange normLessWrong)

/-- 'vernierlaw21.GemmTells': WHATEVER THE INPUT: true; the input reads as it did. -/
def gemmTellsSpec : ChangeSpec := { name := "gemmTells", fn := fun _ => fun
  | [d1, d2] => { results := [.lit (.bool true)], args := [d1, d2] }
  | _ => none }
def gemmTellsRow : OpenClaim := { program := "ytjiilechfjkkfaa", sum := "dedcdf6f84cff406b23907be11659e41bc9a316a7b4c4ef27792f3e2f5fa4824", func := "vernier/vernierlaw21.GemmTells", spec := "gemmTells", inPlace := ["math/bits.Sub64"], unfollowed := true, recurses := true, apart := false }
def GemmTellsSaid : Prop := gemmTellsRow.holds Try.pinned (OpenSpec.ofChange gemmTellsSpec)

/-- ITS FALSE NEIGHBOUR: 'it returns false'. Refute it at one input. -/
def gemmTellsWrong : ChangeSpec := { name := "gemmTells", fn := fun _ => fun
  | [d1, d2] => { results := [.lit (.bool false)], args := [d1, d2] }
  | _ => none }
def GemmTellsWrongFalsely : Prop := gemmTellsRow.holds Try.pinned (OpenSpec.ofChange gemmTellsWrong)

/-- 'vernierlaw21.GemmAll': WHATEVER THE INPUT: true; the input reads as it did. -/
def gemmAllSpec : ChangeSpec := { name := "gemmAll", fn := fun _ => fun
  | [d1, d2, d3, d4, d5, d6, d7] => { results := [.lit (.bool true)], args := [d1, d2, d3, d4, d5, d6, d7] }
  | _ => none }
def gemmAllRow : OpenClaim := { program := "ytjiilechfjkkfaa", sum := "dedcdf6f84cff406b23907be11659e41bc9a316a7b4c4ef27792f3e2f5fa4824", func := "vernier/vernierlaw21.GemmAll", spec := "gemmAll", inPlace := ["math/bits.Sub64"], unfollowed := true, recurses := true, apart := false }
def GemmAllSaid : Prop := gemmAllRow.holds Try.pinned (OpenSpec.ofChange gemmAllSpec)

/-- ITS FALSE NEIGHBOUR: 'it returns false'. Refute it at one input. -/
def gemmAllWrong : ChangeSpec := { name := "gemmAll", fn := fun _ => fun
  | [d1, d2, d3, d4, d5, d6, d7] => { results := [.lit (.bool false)], args := [d1, d2, d3, d4, d5, d6, d7] }
  | _ => none }
def GemmAllWrongFalsely : Prop := gemmAllRow.holds Try.pinned (OpenSpec.ofChange gemmAllWrong)

/-- 'vernierlaw21.GemmOne': WHATEVER THE INPUT: true; the input reads as it did. -/
def gemmOneSpec : ChangeSpec := { name := "gemmOne", fn := fun _ => fun
  | [d] => { results := [.lit (.bool true)], args := [d] }
  | _ => none }
def gemmOneRow : OpenClaim := { program := "ytjiilechfjkkfaa", sum := "dedcdf6f84cff406b23907be11659e41bc9a316a7b4c4ef27792f3e2f5fa4824", func := "vernier/vernierlaw21.GemmOne", spec := "gemmOne", inPlace := ["math/bits.Sub64"], unfollowed := true, recurses := true, apart := false }
def GemmOneSaid : Prop := gemmOneRow.holds Try.pinned (OpenSpec.ofChange gemmOneSpec)

/-- ITS FALSE NEIGHBOUR: 'it returns false'. Refute it at one input. -/
def gemmOneWrong : ChangeSpec := { name := "gemmOne", fn := fun _ => fun
  | [d] => { results := [.lit (.bool false)], args := [d] }
  | _ => none }
def GemmOneWrongFalsely : Prop := gemmOneRow.holds Try.pinned (OpenSpec.ofChange gemmOneWrong)

/- THE SECOND FORM. 'bulk': how many values and letters a reading holds, each counted each time it is reached (what is shared counts as often as it is met; a slice's spare places count too). A statement '..UptoSaid' is the law's where the arguments, and the package variables that the reading takes, are together of bulk at most 1048576: NARROWER than '..Said'. Prove '..Said' where nothing that the law and all that it calls make is longer than what came in: it says more and counts as full. Else prove '..UptoSaid'. A law counts once. -/
mutual
def uptoBulk {H : Type} : DataW H → Nat
  | .lit (.string bytes) => bytes.length + 1
  | .lit _ => 1
  | .nil => 1
  | .ptr d => uptoBulk d + 1
  | .slice elems spare => uptoBulkAll elems + uptoBulkAll spare + 1
  | .agg parts => uptoBulkAll parts + 1
  | .iface _ d => uptoBulk d + 1
  | .map entries => uptoBulkEntries entries + 1
  | .held _ => 1
def uptoBulkAll {H : Type} : List (DataW H) → Nat
  | [] => 0
  | d :: r => uptoBulk d + uptoBulkAll r
def uptoBulkEntries {H : Type} : List (Lit × DataW H) → Nat
  | [] => 0
  | x :: r => uptoBulkEntry x + uptoBulkEntries r
def uptoBulkEntry {H : Type} : Lit × DataW H → Nat
  | (.string bytes, d) => bytes.length + uptoBulk d + 1
  | (_, d) => uptoBulk d + 1
 end
def uptoSmall : (H : Type) → List (DataW H) → Bool := fun _ ds => decide (uptoBulkAll ds ≤ 1048576)
def OpenSpec.upto (s : _root_.Go.ChangeSpec) : _root_.Go.OpenSpec := { _root_.Go.OpenSpec.ofChange s with cond := some uptoSmall }

/-- 'vernierlaw24.PivotTells', WHERE WHAT IT READS IS OF BULK AT MOST 1048576: true; the input reads as it did. -/
def pivotTellsUptoRow : OpenClaim := { program := "ytjiilechfjkkfaa", sum := "dedcdf6f84cff406b23907be11659e41bc9a316a7b4c4ef27792f3e2f5fa4824", func := "vernier/vernierlaw24.PivotTells", spec := "pivotTells", unfollowed := true, recurses := true, apart := false, narrowed := true }
def PivotTellsUptoSaid : Prop := pivotTellsUptoRow.holds Try.pinned (OpenSpec.upto pivotTellsSpec)

/-- 'vernierlaw24.PivotBack', WHERE WHAT IT READS IS OF BULK AT MOST 1048576: true; the input reads as it did. -/
def pivotBackUptoRow : OpenClaim := { program := "ytjiilechfjkkfaa", sum := "dedcdf6f84cff406b23907be11659e41bc9a316a7b4c4ef27792f3e2f5fa4824", func := "vernier/vernierlaw24.PivotBack", spec := "pivotBack", unfollowed := true, recurses := true, apart := false, narrowed := true }
def PivotBackUptoSaid : Prop := pivotBackUptoRow.holds Try.pinned (OpenSpec.upto pivotBackSpec)

/-- 'vernierlaw20.MatTells', WHERE WHAT IT READS IS OF BULK AT MOST 1048576: true; the input reads as it did. -/
def matTellsUptoRow : OpenClaim := { program := "ytjiilechfjkkfaa", sum := "dedcdf6f84cff406b23907be11659e41bc9a316a7b4c4ef27792f3e2f5fa4824", func := "vernier/vernierlaw20.MatTells", spec := "matTells", inPlace := ["math/bits.Sub64"], unfollowed := true, recurses := true, apart := false, narrowed := true }
def MatTellsUptoSaid : Prop := matTellsUptoRow.holds Try.pinned (OpenSpec.upto matTellsSpec)

/-- 'vernierlaw20.MatColumns', WHERE WHAT IT READS IS OF BULK AT MOST 1048576: true; the input reads as it did. -/
def matColumnsUptoRow : OpenClaim := { program := "ytjiilechfjkkfaa", sum := "dedcdf6f84cff406b23907be11659e41bc9a316a7b4c4ef27792f3e2f5fa4824", func := "vernier/vernierlaw20.MatColumns", spec := "matColumns", inPlace := ["math/bits.Sub64"], unfollowed := true, recurses := true, apart := false, narrowed := true }
def MatColumnsUptoSaid : Prop := matColumnsUptoRow.holds Try.pinned (OpenSpec.upto matColumnsSpec)

/-- 'vernierlaw20.MatParts', WHERE WHAT IT READS IS OF BULK AT MOST 1048576: true; the input reads as it did. -/
def matPartsUptoRow : OpenClaim := { program := "ytjiilechfjkkfaa", sum := "dedcdf6f84cff406b23907be11659e41bc9a316a7b4c4ef27792f3e2f5fa4824", func := "vernier/vernierlaw20.MatParts", spec := "matParts", inPlace := ["math/bits.Sub64"], unfollowed := true, recurses := true, apart := false, narrowed := true }
def MatPartsUptoSaid : Prop := matPartsUptoRow.holds Try.pinned (OpenSpec.upto matPartsSpec)

/-- 'vernierlaw23.NormTells', WHERE WHAT IT READS IS OF BULK AT MOST 1048576: true; the input reads as it did. -/
def normTellsUptoRow : OpenClaim := { program := "ytjiilechfjkkfaa", sum := "dedcdf6f84cff406b23907be11659e41bc9a316a7b4c4ef27792f3e2f5fa4824", func := "vernier/vernierlaw23.NormTells", spec := "normTells", inPlace := ["math/bits.Sub64"], unfollowed := true, recurses := true, apart := false, narrowed := true }
def NormTellsUptoSaid : Prop := normTellsUptoRow.holds Try.pinned (OpenSpec.upto normTellsSpec)

/-- 'vernierlaw23.NormTurns', WHERE WHAT IT READS IS OF BULK AT MOST 1048576: true; the input reads as it did. -/
def normTurnsUptoRow : OpenClaim := { program := "ytjiilechfjkkfaa", sum := "dedcdf6f84cff406b23907be11659e41bc9a316a7b4c4ef27792f3e2f5fa4824", func := "vernier/vernierlaw23.NormTurns", spec := "normTurns", inPlace := ["math/bits.Sub64"], unfollowed := true, recurses := true, apart := false, narrowed := true }
def NormTurnsUptoSaid : Prop := normTurnsUptoRow.holds Try.pinned (OpenSpec.upto normTurnsSpec)

/-- 'vernierlaw23.NormLess', WHERE WHAT IT READS IS OF BULK AT MOST 1048576: true; the input reads as it did. -/
def normLessUptoRow : OpenClaim := { program := "ytjiilechfjkkfaa", sum := "dedcdf6f84cff406b23907be11659e41bc9a316a7b4c4ef27792f3e2f5fa4824", func := "vernier/vernierlaw23.NormLess", spec := "normLess", inPlace := ["math/bits.Sub64"], unfollowed := true, recurses := true, apart := false, narrowed := true }
def NormLessUptoSaid : Prop := normLessUptoRow.holds Try.pinned (OpenSpec.upto normLessSpec)

/-- 'vernierlaw21.GemmTells', WHERE WHAT IT READS IS OF BULK AT MOST 1048576: true; the input reads as it did. -/
def gemmTellsUptoRow : OpenClaim := { program := "ytjiilechfjkkfaa", sum := "dedcdf6f84cff406b23907be11659e41bc9a316a7b4c4ef27792f3e2f5fa4824", func := "vernier/vernierlaw21.GemmTells", spec := "gemmTells", inPlace := ["math/bits.Sub64"], unfollowed := true, recurses := true, apart := false, narrowed := true }
def GemmTellsUptoSaid : Prop := gemmTellsUptoRow.holds Try.pinned (OpenSpec.upto gemmTellsSpec)

/-- 'vernierlaw21.GemmAll', WHERE WHAT IT READS IS OF BULK AT MOST 1048576: true; the input reads as it did. -/
def gemmAllUptoRow : OpenClaim := { program := "ytjiilechfjkkfaa", sum := "dedcdf6f84cff406b23907be11659e41bc9a316a7b4c4ef27792f3e2f5fa4824", func := "vernier/vernierlaw21.GemmAll", spec := "gemmAll", inPlace := ["math/bits.Sub64"], unfollowed := true, recurses := true, apart := false, narrowed := true }
def GemmAllUptoSaid : Prop := gemmAllUptoRow.holds Try.pinned (OpenSpec.upto gemmAllSpec)

/-- 'vernierlaw21.GemmOne', WHERE WHAT IT READS IS OF BULK AT MOST 1048576: true; the input reads as it did. -/
def gemmOneUptoRow : OpenClaim := { program := "ytjiilechfjkkfaa", sum := "dedcdf6f84cff406b23907be11659e41bc9a316a7b4c4ef27792f3e2f5fa4824", func := "vernier/vernierlaw21.GemmOne", spec := "gemmOne", inPlace := ["math/bits.Sub64"], unfollowed := true, recurses := true, apart := false, narrowed := true }
def GemmOneUptoSaid : Prop := gemmOneUptoRow.holds Try.pinned (OpenSpec.upto gemmOneSpec)

end Rows
end Go.Proofs.Ytjiilechfjkkfaa
