/-
  No cell of these rows narrows 'for every input' (looked for: loops, veiled, ifaces, maps, wideKeys, modest, calm, conditions, laid).
  DERIVED. THE GIVEN ROWS OF THIS SEAT. 11 by the template 'for every input the law returns true; each argument reads behind the call as it read before'; 0 by the template 'total and deterministic' (their statements: YtdcebkhdnhdejaaTotals.lean).
  GIVEN WITH THE SEED: the statements are not yours to turn. If you find one false, say at which input.
  Laid BY PROGRAM, IN A SANDBOX (cutbox-rows.mjs): the forced cells as the released guide's own fill.sh prints them over the translation 8db1acaf071b2b31… (all of the seat's roots in one cut). By AI agents, Wed Nov 11 2026. No macro, syntax, notation, axiom, sorry.
-/
import Derived.Test.YtdcebkhdnhdejaaChecked
import GoSem.Claim
import GoSem.ClaimJoined
import GoSem.ClaimMapViews
import Derived.JoinedTies
import Derived.KernelRfl
namespace Go.Proofs.Ytdcebkhdnhdejaa
/- THE CELL 'sum', in the pinned program and in every row, IS THE sha256 OF THE DUMP (.gsa) THAT YtdcebkhdnhdejaaProg.lean LOADS. Nothing in Lean hashes anything: it is a label: what it is worth is what the hold of that sum in a sandbox is worth. -/
noncomputable def Try.pinned : Pinned := { name := "ytdcebkhdnhdejaa", sum := "8db1acaf071b2b312770f8c571cb2583044227a15f8d9a6b79aacc1baabb8e78", checked := Try.checked }
namespace Rows
def none {H : Type} : Left H := { results := [], args := [] }

/-- 'vernierlaw24.PivotTells': WHATEVER THE INPUT: true; the input reads as it did. -/
def pivotTellsSpec : ChangeSpec := { name := "pivotTells", fn := fun _ => fun
  | [d1, d2, d3, d4] => { results := [.lit (.bool true)], args := [d1, d2, d3, d4] }
  | _ => none }
def pivotTellsRow : OpenClaim := { program := "ytdcebkhdnhdejaa", sum := "8db1acaf071b2b312770f8c571cb2583044227a15f8d9a6b79aacc1baabb8e78", func := "vernier/vernierlaw24.PivotTells", spec := "pivotTells", unfollowed := true, recurses := true, apart := false }
def PivotTellsSaid : Prop := pivotTellsRow.holds Try.pinned (OpenSpec.ofChange pivotTellsSpec)

/-- ITS FALSE NEIGHBOUR: 'it returns false'. Refute it at one input. -/
def pivotTellsWrong : ChangeSpec := { name := "pivotTells", fn := fun _ => fun
  | [d1, d2, d3, d4] => { results := [.lit (.bool false)], args := [d1, d2, d3, d4] }
  | _ => none }
def PivotTellsWrongFalsely : Prop := pivotTellsRow.holds Try.pinned (OpenSpec.ofChange pivotTellsWrong)

/-- 'vernierlaw24.PivotBack': WHATEVER THE INPUT: true; the input reads as it did. -/
def pivotBackSpec : ChangeSpec := { name := "pivotBack", fn := fun _ => fun
  | [d1, d2] => { results := [.lit (.bool true)], args := [d1, d2] }
  | _ => none }
def pivotBackRow : OpenClaim := { program := "ytdcebkhdnhdejaa", sum := "8db1acaf071b2b312770f8c571cb2583044227a15f8d9a6b79aacc1baabb8e78", func := "vernier/vernierlaw24.PivotBack", spec := "pivotBack", unfollowed := true, recurses := true, apart := false }
def PivotBackSaid : Prop := pivotBackRow.holds Try.pinned (OpenSpec.ofChange pivotBackSpec)

/-- ITS FALSE NEIGHBOUR: 'it returns false'. Refute it at one input. -/
def pivotBackWrong : ChangeSpec := { name := "pivotBack", fn := fun _ => fun
  | [d1, d2] => { results := [.lit (.bool false)], args := [d1, d2] }
  | _ => none }
def PivotBackWrongFalsely : Prop := pivotBackRow.holds Try.pinned (OpenSpec.ofChange pivotBackWrong)

/-- 'vernierlaw20.MatColumns': WHATEVER THE INPUT: true; the input reads as it did. -/
def matColumnsSpec : ChangeSpec := { name := "matColumns", fn := fun _ => fun
  | [d1, d2, d3] => { results := [.lit (.bool true)], args := [d1, d2, d3] }
  | _ => none }
def matColumnsRow : OpenClaim := { program := "ytdcebkhdnhdejaa", sum := "8db1acaf071b2b312770f8c571cb2583044227a15f8d9a6b79aacc1baabb8e78", func := "vernier/vernierlaw20.MatColumns", spec := "matColumns", inPlace := ["math/bits.Sub64"], unfollowed := true, recurses := true, apart := false }
def MatColumnsSaid : Prop := matColumnsRow.holds Try.pinned (OpenSpec.ofChange matColumnsSpec)

/-- ITS FALSE NEIGHBOUR: 'it returns false'. Refute it at one input. -/
def matColumnsWrong : ChangeSpec := { name := "matColumns", fn := fun _ => fun
  | [d1, d2, d3] => { results := [.lit (.bool false)], args := [d1, d2, d3] }
  | _ => none }
def MatColumnsWrongFalsely : Prop := matColumnsRow.holds Try.pinned (OpenSpec.ofChange matColumnsWrong)

/-- 'vernierlaw20.MatParts': WHATEVER THE INPUT: true; the input reads as it did. -/
def matPartsSpec : ChangeSpec := { name := "matParts", fn := fun _ => fun
  | [d1, d2, d3, d4, d5, d6] => { results := [.lit (.bool true)], args := [d1, d2, d3, d4, d5, d6] }
  | _ => none }
def matPartsRow : OpenClaim := { program := "ytdcebkhdnhdejaa", sum := "8db1acaf071b2b312770f8c571cb2583044227a15f8d9a6b79aacc1baabb8e78", func := "vernier/vernierlaw20.MatParts", spec := "matParts", inPlace := ["math/bits.Sub64"], unfollowed := true, recurses := true, apart := false }
def MatPartsSaid : Prop := matPartsRow.holds Try.pinned (OpenSpec.ofChange matPartsSpec)

/-- ITS FALSE NEIGHBOUR: 'it returns false'. Refute it at one input. -/
def matPartsWrong : ChangeSpec := { name := "matParts", fn := fun _ => fun
  | [d1, d2, d3, d4, d5, d6] => { results := [.lit (.bool false)], args := [d1, d2, d3, d4, d5, d6] }
  | _ => none }
def MatPartsWrongFalsely : Prop := matPartsRow.holds Try.pinned (OpenSpec.ofChange matPartsWrong)

/-- 'vernierlaw21.GemmAll': WHATEVER THE INPUT: true; the input reads as it did. -/
def gemmAllSpec : ChangeSpec := { name := "gemmAll", fn := fun _ => fun
  | [d1, d2, d3, d4, d5, d6, d7] => { results := [.lit (.bool true)], args := [d1, d2, d3, d4, d5, d6, d7] }
  | _ => none }
def gemmAllRow : OpenClaim := { program := "ytdcebkhdnhdejaa", sum := "8db1acaf071b2b312770f8c571cb2583044227a15f8d9a6b79aacc1baabb8e78", func := "vernier/vernierlaw21.GemmAll", spec := "gemmAll", inPlace := ["math/bits.Sub64"], unfollowed := true, recurses := true, apart := false }
def GemmAllSaid : Prop := gemmAllRow.holds Try.pinned (OpenSpec.ofChange gemmAllSpec)

/-- ITS FALSE NEIGHBOUR: 'it returns false'. Refute it at one input. -/
def gemmAllWrong : ChangeSpec := { name := "gemmAll", fn := fun _ => fun
  | [d1, d2, d3, d4, d5, d6, d7] => { results := [.lit (.bool false)], args := [d1, d2, d3, d4, d5, d6, d7] }
  | _ => none }
def GemmAllWrongFalsely : Prop := gemmAllRow.holds Try.pinned (OpenSpec.ofChange gemmAllWrong)

/-- 'vernierlaw22.TriTells': WHATEVER THE INPUT: true; the input reads as it did. -/
def triTellsSpec : ChangeSpec := { name := "triTells", fn := fun _ => fun
  | [d1, d2, d3, d4] => { results := [.lit (.bool true)], args := [d1, d2, d3, d4] }
  | _ => none }
def triTellsRow : OpenClaim := { program := "ytdcebkhdnhdejaa", sum := "8db1acaf071b2b312770f8c571cb2583044227a15f8d9a6b79aacc1baabb8e78", func := "vernier/vernierlaw22.TriTells", spec := "triTells", inPlace := ["math/bits.Sub64"], unfollowed := true, recurses := true, named := ["math/bits.divideError", "math/bits.overflowError"], apart := false }
def TriTellsSaid : Prop := triTellsRow.holds Try.pinned (OpenSpec.ofChange triTellsSpec)

/-- ITS FALSE NEIGHBOUR: 'it returns false'. Refute it at one input. -/
def triTellsWrong : ChangeSpec := { name := "triTells", fn := fun _ => fun
  | [d1, d2, d3, d4] => { results := [.lit (.bool false)], args := [d1, d2, d3, d4] }
  | _ => none }
def TriTellsWrongFalsely : Prop := triTellsRow.holds Try.pinned (OpenSpec.ofChange triTellsWrong)

/-- 'vernierlaw22.TriHalves': WHATEVER THE INPUT: true; the input reads as it did. -/
def triHalvesSpec : ChangeSpec := { name := "triHalves", fn := fun _ => fun
  | [d1, d2, d3] => { results := [.lit (.bool true)], args := [d1, d2, d3] }
  | _ => none }
def triHalvesRow : OpenClaim := { program := "ytdcebkhdnhdejaa", sum := "8db1acaf071b2b312770f8c571cb2583044227a15f8d9a6b79aacc1baabb8e78", func := "vernier/vernierlaw22.TriHalves", spec := "triHalves", inPlace := ["math/bits.Sub64"], unfollowed := true, recurses := true, named := ["math/bits.divideError", "math/bits.overflowError"], apart := false }
def TriHalvesSaid : Prop := triHalvesRow.holds Try.pinned (OpenSpec.ofChange triHalvesSpec)

/-- ITS FALSE NEIGHBOUR: 'it returns false'. Refute it at one input. -/
def triHalvesWrong : ChangeSpec := { name := "triHalves", fn := fun _ => fun
  | [d1, d2, d3] => { results := [.lit (.bool false)], args := [d1, d2, d3] }
  | _ => none }
def TriHalvesWrongFalsely : Prop := triHalvesRow.holds Try.pinned (OpenSpec.ofChange triHalvesWrong)

/-- 'vernierlaw22.TriRest': WHATEVER THE INPUT: true; the input reads as it did. -/
def triRestSpec : ChangeSpec := { name := "triRest", fn := fun _ => fun
  | [d1, d2, d3, d4] => { results := [.lit (.bool true)], args := [d1, d2, d3, d4] }
  | _ => none }
def triRestRow : OpenClaim := { program := "ytdcebkhdnhdejaa", sum := "8db1acaf071b2b312770f8c571cb2583044227a15f8d9a6b79aacc1baabb8e78", func := "vernier/vernierlaw22.TriRest", spec := "triRest", inPlace := ["math/bits.Sub64"], unfollowed := true, recurses := true, named := ["math/bits.divideError", "math/bits.overflowError"], apart := false }
def TriRestSaid : Prop := triRestRow.holds Try.pinned (OpenSpec.ofChange triRestSpec)

/-- ITS FALSE NEIGHBOUR: 'it returns false'. Refute it at one input. -/
def triRestWrong : ChangeSpec := { name := "triRest", fn := fun _ => fun
  | [d1, d2, d3, d4] => { results := [.lit (.bool false)], args := [d1, d2, d3, d4] }
  | _ => none }
def TriRestWrongFalsely : Prop := triRestRow.holds Try.pinned (OpenSpec.ofChange triRestWrong)

/-- 'vernierlaw25.HouseTells': WHATEVER THE INPUT: true; the input reads as it did. -/
def houseTellsSpec : ChangeSpec := { name := "houseTells", fn := fun _ => fun
  | [d] => { results := [.lit (.bool true)], args := [d] }
  | _ => none }
def houseTellsRow : OpenClaim := { program := "ytdcebkhdnhdejaa", sum := "8db1acaf071b2b312770f8c571cb2583044227a15f8d9a6b79aacc1baabb8e78", func := "vernier/vernierlaw25.HouseTells", spec := "houseTells", inPlace := ["math/bits.Sub64", "math/bits.Add64"], unfollowed := true, recurses := true, named := ["math/bits.divideError", "math/bits.overflowError"], apart := false }
def HouseTellsSaid : Prop := houseTellsRow.holds Try.pinned (OpenSpec.ofChange houseTellsSpec)

/-- ITS FALSE NEIGHBOUR: 'it returns false'. Refute it at one input. -/
def houseTellsWrong : ChangeSpec := { name := "houseTells", fn := fun _ => fun
  | [d] => { results := [.lit (.bool false)], args := [d] }
  | _ => none }
def HouseTellsWrongFalsely : Prop := houseTellsRow.holds Try.pinned (OpenSpec.ofChange houseTellsWrong)

/-- 'vernierlaw25.HouseApplies': WHATEVER THE INPUT: true; the input reads as it did. -/
def houseAppliesSpec : ChangeSpec := { name := "houseApplies", fn := fun _ => fun
  | [d1, d2, d3] => { results := [.lit (.bool true)], args := [d1, d2, d3] }
  | _ => none }
def houseAppliesRow : OpenClaim := { program := "ytdcebkhdnhdejaa", sum := "8db1acaf071b2b312770f8c571cb2583044227a15f8d9a6b79aacc1baabb8e78", func := "vernier/vernierlaw25.HouseApplies", spec := "houseApplies", inPlace := ["math/bits.Sub64", "math/bits.Add64"], unfollowed := true, recurses := true, named := ["math/bits.divideError", "math/bits.overflowError"], apart := false }
def HouseAppliesSaid : Prop := houseAppliesRow.holds Try.pinned (OpenSpec.ofChange houseAppliesSpec)

/-- ITS FALSE NEIGHBOUR: 'it returns false'. Refute it at one input. -/
def houseAppliesWrong : ChangeSpec := { name := "houseApplies", fn := fun _ => fun
  | [d1, d2, d3] => { results := [.lit (.bool false)], args := [d1, d2, d3] }
  | _ => none }
def HouseAppliesWrongFalsely : Prop := houseAppliesRow.holds Try.pinned (OpenSpec.ofChange houseAppliesWrong)

/-- 'vernierlaw25.HouseSigns': WHATEVER THE INPUT: true; the input reads as it did. -/
def houseSignsSpec : ChangeSpec := { name := "houseSigns", fn := fun _ => fun
  | [d] => { results := [.lit (.bool true)], args := [d] }
  | _ => none }
def houseSignsRow : OpenClaim := { program := "ytdcebkhdnhdejaa", sum := "8db1acaf071b2b312770f8c571cb2583044227a15f8d9a6b79aacc1baabb8e78", func := "vernier/vernierlaw25.HouseSigns", spec := "houseSigns", inPlace := ["math/bits.Sub64", "math/bits.Add64"], unfollowed := true, recurses := true, named := ["math/bits.divideError", "math/bits.overflowError"], apart := false }
def HouseSignsSaid : Prop := houseSignsRow.holds Try.pinned (OpenSpec.ofChange houseSignsSpec)

/-- ITS FALSE NEIGHBOUR: 'it returns false'. Refute it at one input. -/
def houseSignsWrong : ChangeSpec := { name := "houseSigns", fn := fun _ => fun
  | [d] => { results := [.lit (.bool false)], args := [d] }
  | _ => none }
def HouseSignsWrongFalsely : Prop := houseSignsRow.holds Try.pinned (OpenSpec.ofChange houseSignsWrong)

/- THE SECOND FORM. 'bulk': how many values and letters a reading holds, each counted each time it is reached (what is shared counts as often as it is met; a slice's spare places count too). A statement '..UptoSaid' is the law's where the arguments, and the package variables that the reading takes, are together of bulk at most 1048576: NARROWER than '..Said'. Prove '..Said' where nothing that the law and all that it calls make is longer than what came in: it says more and counts as full. Else prove '..UptoSaid'. A law counts once. -/
mutual
def uptoBulk {H : Type} : DataW H → Nat
  | .lit (.string bytes) => bytes.length + 1
  | .lit _ => 1
  | .nil => 1
  | .ptr d => uptoBulk d + 1
  | .slice elems spare => uptoBulkAll elems + uptoBulkAll spare + 1
  | .agg parts => uptoBulkAll parts + 1
  | .iface _ d => uptoBulk d + 1
  | .map entries => uptoBulkEntries entries + 1
  | .held _ => 1
def uptoBulkAll {H : Type} : List (DataW H) → Nat
  | [] => 0
  | d :: r => uptoBulk d + uptoBulkAll r
def uptoBulkEntries {H : Type} : List (Lit × DataW H) → Nat
  | [] => 0
  | x :: r => uptoBulkEntry x + uptoBulkEntries r
def uptoBulkEntry {H : Type} : Lit × DataW H → Nat
  | (.string bytes, d) => bytes.length + uptoBulk d + 1
  | (_, d) => uptoBulk d + 1
 end
def uptoSmall : (H : Type) → List (DataW H) → Bool := fun _ ds => decide (uptoBulkAll ds ≤ 1048576)
def OpenSpec.upto (s : _root_.Go.ChangeSpec) : _root_.Go.OpenSpec := { _root_.Go.OpenSpec.ofChange s with cond := some uptoSmall }

/-- 'vernierlaw24.PivotTells', WHERE WHAT IT READS IS OF BULK AT MOST 1048576: true; the input reads as it did. -/
def pivotTellsUptoRow : OpenClaim := { program := "ytdcebkhdnhdejaa", sum := "8db1acaf071b2b312770f8c571cb2583044227a15f8d9a6b79aacc1baabb8e78", func := "vernier/vernierlaw24.PivotTells", spec := "pivotTells", unfollowed := true, recurses := true, apart := false, narrowed := true }
def PivotTellsUptoSaid : Prop := pivotTellsUptoRow.holds Try.pinned (OpenSpec.upto pivotTellsSpec)

/-- 'vernierlaw24.PivotBack', WHERE WHAT IT READS IS OF BULK AT MOST 1048576: true; the input reads as it did. -/
def pivotBackUptoRow : OpenClaim := { program := "ytdcebkhdnhdejaa", sum := "8db1acaf071b2b312770f8c571cb2583044227a15f8d9a6b79aacc1baabb8e78", func := "vernier/vernierlaw24.PivotBack", spec := "pivotBack", unfollowed := true, recurses := true, apart := false, narrowed := true }
def PivotBackUptoSaid : Prop := pivotBackUptoRow.holds Try.pinned (OpenSpec.upto pivotBackSpec)

/-- 'vernierlaw20.MatColumns', WHERE WHAT IT READS IS OF BULK AT MOST 1048576: true; the input reads as it did. -/
def matColumnsUptoRow : OpenClaim := { program := "ytdcebkhdnhdejaa", sum := "8db1acaf071b2b312770f8c571cb2583044227a15f8d9a6b79aacc1baabb8e78", func := "vernier/vernierlaw20.MatColumns", spec := "matColumns", inPlace := ["math/bits.Sub64"], unfollowed := true, recurses := true, apart := false, narrowed := true }
def MatColumnsUptoSaid : Prop := matColumnsUptoRow.holds Try.pinned (OpenSpec.upto matColumnsSpec)

/-- 'vernierlaw20.MatParts', WHERE WHAT IT READS IS OF BULK AT MOST 1048576: true; the input reads as it did. -/
def matPartsUptoRow : OpenClaim := { program := "ytdcebkhdnhdejaa", sum := "8db1acaf071b2b312770f8c571cb2583044227a15f8d9a6b79aacc1baabb8e78", func := "vernier/vernierlaw20.MatParts", spec := "matParts", inPlace := ["math/bits.Sub64"], unfollowed := true, recurses := true, apart := false, narrowed := true }
def MatPartsUptoSaid : Prop := matPartsUptoRow.holds Try.pinned (OpenSpec.upto matPartsSpec)

/-- 'vernierlaw21.GemmAll', WHERE WHAT IT READS IS OF BULK AT MOST 1048576: true; the input reads as it did. -/
def gemmAllUptoRow : OpenClaim := { program := "ytdcebkhdnhdejaa", sum := "8db1acaf071b2b312770f8c571cb2583044227a15f8d9a6b79aacc1baabb8e78", func := "vernier/vernierlaw21.GemmAll", spec := "gemmAll", inPlace := ["math/bits.Sub64"], unfollowed := true, recurses := true, apart := false, narrowed := true }
def GemmAllUptoSaid : Prop := gemmAllUptoRow.holds Try.pinned (OpenSpec.upto gemmAllSpec)

/-- 'vernierlaw22.TriTells', WHERE WHAT IT READS IS OF BULK AT MOST 1048576: true; the input reads as it did. -/
def triTellsUptoRow : OpenClaim := { program := "ytdcebkhdnhdejaa", sum := "8db1acaf071b2b312770f8c571cb2583044227a15f8d9a6b79aacc1baabb8e78", func := "vernier/vernierlaw22.TriTells", spec := "triTells", inPlace := ["math/bits.Sub64"], unfollowed := true, recurses := true, named := ["math/bits.divideError", "math/bits.overflowError"], apart := false, narrowed := true }
def TriTellsUptoSaid : Prop := triTellsUptoRow.holds Try.pinned (OpenSpec.upto triTellsSpec)

/-- 'vernierlaw22.TriHalves', WHERE WHAT IT READS IS OF BULK AT MOST 1048576: true; the input reads as it did. -/
def triHalvesUptoRow : OpenClaim := { program := "ytdcebkhdnhdejaa", sum := "8db1acaf071b2b312770f8c571cb2583044227a15f8d9a6b79aacc1baabb8e78", func := "vernier/vernierlaw22.TriHalves", spec := "triHalves", inPlace := ["math/bits.Sub64"], unfollowed := true, recurses := true, named := ["math/bits.divideError", "math/bits.overflowError"], apart := false, narrowed := true }
def TriHalvesUptoSaid : Prop := triHalvesUptoRow.holds Try.pinned (OpenSpec.upto triHalvesSpec)

/-- 'vernierlaw22.TriRest', WHERE WHAT IT READS IS OF BULK AT MOST 1048576: true; the input reads as it did. -/
def triRestUptoRow : OpenClaim := { program := "ytdcebkhdnhdejaa", sum := "8db1acaf071b2b312770f8c571cb2583044227a15f8d9a6b79aacc1baabb8e78", func := "vernier/vernierlaw22.TriRest", spec := "triRest", inPlace := ["math/bits.Sub64"], unfollowed := true, recurses := true, named := ["math/bits.divideError", "math/bits.overflowError"], apart := false, narrowed := true }
def TriRestUptoSaid : Prop := triRestUptoRow.holds Try.pinned (OpenSpec.upto triRestSpec)

/-- 'vernierlaw25.HouseTells', WHERE WHAT IT READS IS OF BULK AT MOST 1048576: true; the input reads as it did. -/
def houseTellsUptoRow : OpenClaim := { program := "ytdcebkhdnhdejaa", sum := "8db1acaf071b2b312770f8c571cb2583044227a15f8d9a6b79aacc1baabb8e78", func := "vernier/vernierlaw25.HouseTells", spec := "houseTells", inPlace := ["math/bits.Sub64", "math/bits.Add64"], unfollowed := true, recurses := true, named := ["math/bits.divideError", "math/bits.overflowError"], apart := false, narrowed := true }
def HouseTellsUptoSaid : Prop := houseTellsUptoRow.holds Try.pinned (OpenSpec.upto houseTellsSpec)

/-- 'vernierlaw25.HouseApplies', WHERE WHAT IT READS IS OF BULK AT MOST 1048576: true; the input reads as it did. -/
def houseAppliesUptoRow : OpenClaim := { program := "ytdcebkhdnhdejaa", sum := "8db1acaf071b2b312770f8c571cb2583044227a15f8d9a6b79aacc1baabb8e78", func := "vernier/vernierlaw25.HouseApplies", spec := "houseApplies", inPlace := ["math/bits.Sub64", "math/bits.Add64"], unfollowed := true, recurses := true, named := ["math/bits.divideError", "math/bits.overflowError"], apart := false, narrowed := true }
def HouseAppliesUptoSaid : Prop := houseAppliesUptoRow.holds Try.pinned (OpenSpec.upto houseAppliesSpec)

/-- 'vernierlaw25.HouseSigns', WHERE WHAT IT READS IS OF BULK AT MOST 1048576: true; the input reads as it did. -/
def houseSignsUptoRow : OpenClaim := { program := "ytdcebkhdnhdejaa", sum := "8db1acaf071b2b312770f8c571cb2583044227a15f8d9a6b79aacc1baabb8e78", func := "vernier/vernierlaw25.HouseSigns", spec := "houseSigns", inPlace := ["math/bits.Sub64", "math/bits.Add64"], unfollowed := true, recurses := true, named := ["math/bits.divideError", "math/bits.overflowError"], apart := false, narrowed := true }
def HouseSignsUptoSaid : Prop := houseSignsUptoRow.holds Try.pinned (OpenSpec.upto houseSignsSpec)

end Rows
end Go.Proofs.Ytdcebkhdnhdejaa
