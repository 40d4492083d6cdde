/-
  No cell of these rows narrows 'for every input' (looked for: loops, veiled, ifaces, maps, wideKeys, modest, calm, conditions, laid).
  DERIVED. THE GIVEN ROWS OF THIS SEAT. 4 by the template 'for every input the law returns true; each argument reads behind the call as it read before'; 0 by the template 'total and deterministic' (their statements: YtjljmccdlkdgoaaTotals.lean).
  GIVEN WITH THE SEED: the statements are not yours to turn. If you find one false, say at which input.
  Laid BY PROGRAM, IN A SANDBOX (cutbox-rows.mjs): the forced cells as the released guide's own fill.sh prints them over the translation 40fc6e2e6d59a1ed… (all of the seat's roots in one cut). By AI agents, Wed Nov 11 2026. No macro, syntax, notation, axiom, sorry.
-/
import Derived.Test.YtjljmccdlkdgoaaChecked
import GoSem.Claim
import GoSem.ClaimJoined
import GoSem.ClaimMapViews
import Derived.JoinedTies
import Derived.KernelRfl
namespace Go.Proofs.Ytjljmccdlkdgoaa
/- THE CELL 'sum', in the pinned program and in every row, IS THE sha256 OF THE DUMP (.gsa) THAT YtjljmccdlkdgoaaProg.lean LOADS. Nothing in Lean hashes anything: it is a label: what it is worth is what the hold of that sum in a sandbox is worth. -/
noncomputable def Try.pinned : Pinned := { name := "ytjljmccdlkdgoaa", sum := "40fc6e2e6d59a1edd7cee4b97e86585a523708f8ef359eb387ed2d61ea77e2bc", checked := Try.checked }
namespace Rows
def none {H : Type} : Left H := { results := [], args := [] }

/-- 'vernierlaw24.PivotTells': WHATEVER THE INPUT: true; the input reads as it did. -/
def pivotTellsSpec : ChangeSpec := { name := "pivotTells", fn := fun _ => fun
  | [d1, d2, d3, d4] => { results := [.lit (.bool true)], args := [d1, d2, d3, d4] }
  | _ => none }
def pivotTellsRow : OpenClaim := { program := "ytjljmccdlkdgoaa", sum := "40fc6e2e6d59a1edd7cee4b97e86585a523708f8ef359eb387ed2d61ea77e2bc", func := "vernier/vernierlaw24.PivotTells", spec := "pivotTells", unfollowed := true, recurses := true, apart := false }
def PivotTellsSaid : Prop := pivotTellsRow.holds Try.pinned (OpenSpec.ofChange pivotTellsSpec)

/-- ITS FALSE NEIGHBOUR: 'it returns false'. Refute it at one input. -/
def pivotTellsWrong : ChangeSpec := { name := "pivotTells", fn := fun _ => fun
  | [d1, d2, d3, d4] => { results := [.lit (.bool false)], args := [d1, d2, d3, d4] }
  | _ => none }
def PivotTellsWrongFalsely : Prop := pivotTellsRow.holds Try.pinned (OpenSpec.ofChange pivotTellsWrong)

/-- 'vernierlaw24.PivotBack': WHATEVER THE INPUT: true; the input reads as it did. -/
def pivotBackSpec : ChangeSpec := { name := "pivotBack", fn := fun _ => fun
  | [d1, d2] => { results := [.lit (.bool true)], args := [d1, d2] }
  | _ => none }
def pivotBackRow : OpenClaim := { program := "ytjljmccdlkdgoaa", sum := "40fc6e2e6d59a1edd7cee4b97e86585a523708f8ef359eb387ed2d61ea77e2bc", func := "vernier/vernierlaw24.PivotBack", spec := "pivotBack", unfollowed := true, recurses := true, apart := false }
def PivotBackSaid : Prop := pivotBackRow.holds Try.pinned (OpenSpec.ofChange pivotBackSpec)

/-- ITS FALSE NEIGHBOUR: 'it returns false'. Refute it at one input. -/
def pivotBackWrong : ChangeSpec := { name := "pivotBack", fn := fun _ => fun
  | [d1, d2] => { results := [.lit (.bool false)], args := [d1, d2] }
  | _ => none }
def PivotBackWrongFalsely : Prop := pivotBackRow.holds Try.pinned (OpenSpec.ofChange pivotBackWrong)

/-- 'vernierlaw39.ScriptBack': WHATEVER THE INPUT: true; the input reads as it did. -/
def scriptBackSpec : ChangeSpec := { name := "scriptBack", fn := fun _ => fun
  | [d1, d2] => { results := [.lit (.bool true)], args := [d1, d2] }
  | _ => none }
def scriptBackRow : OpenClaim := { program := "ytjljmccdlkdgoaa", sum := "40fc6e2e6d59a1edd7cee4b97e86585a523708f8ef359eb387ed2d61ea77e2bc", func := "vernier/vernierlaw39.ScriptBack", spec := "scriptBack", unfollowed := true, recurses := true, apart := false }
def ScriptBackSaid : Prop := scriptBackRow.holds Try.pinned (OpenSpec.ofChange scriptBackSpec)

/-- ITS FALSE NEIGHBOUR: 'it returns false'. Refute it at one input. -/
def scriptBackWrong : ChangeSpec := { name := "scriptBack", fn := fun _ => fun
  | [d1, d2] => { results := [.lit (.bool false)], args := [d1, d2] }
  | _ => none }
def ScriptBackWrongFalsely : Prop := scriptBackRow.holds Try.pinned (OpenSpec.ofChange scriptBackWrong)

/-- 'vernierlaw39.ScriptCuts': WHATEVER THE INPUT: true; the input reads as it did. -/
def scriptCutsSpec : ChangeSpec := { name := "scriptCuts", fn := fun _ => fun
  | [d1, d2] => { results := [.lit (.bool true)], args := [d1, d2] }
  | _ => none }
def scriptCutsRow : OpenClaim := { program := "ytjljmccdlkdgoaa", sum := "40fc6e2e6d59a1edd7cee4b97e86585a523708f8ef359eb387ed2d61ea77e2bc", func := "vernier/vernierlaw39.ScriptCuts", spec := "scriptCuts", unfollowed := true, recurses := true, apart := false }
def ScriptCutsSaid : Prop := scriptCutsRow.holds Try.pinned (OpenSpec.ofChange scriptCutsSpec)

/-- ITS FALSE NEIGHBOUR: 'it returns false'. Refute it at one input. -/
def scriptCutsWrong : ChangeSpec := { name := "scriptCuts", fn := fun _ => fun
  | [d1, d2] => { results := [.lit (.bool false)], args := [d1, d2] }
  | _ => none }
def ScriptCutsWrongFalsely : Prop := scriptCutsRow.holds Try.pinned (OpenSpec.ofChange scriptCutsWrong)

/- THE SECOND FORM. 'bulk': how many values and letters a reading holds, each counted each time it is reached (what is shared counts as often as it is met; a slice's spare places count too). A statement '..UptoSaid' is the law's where the arguments, and the package variables that the reading takes, are together of bulk at most 1048576: NARROWER than '..Said'. Prove '..Said' where nothing that the law and all that it calls make is longer than what came in: it says more and counts as full. Else prove '..UptoSaid'. A law counts once. -/
mutual
def uptoBulk {H : Type} : DataW H → Nat
  | .lit (.string bytes) => bytes.length + 1
  | .lit _ => 1
  | .nil => 1
  | .ptr d => uptoBulk d + 1
  | .slice elems spare => uptoBulkAll elems + uptoBulkAll spare + 1
  | .agg parts => uptoBulkAll parts + 1
  | .iface _ d => uptoBulk d + 1
  | .map entries => uptoBulkEntries entries + 1
  | .held _ => 1
def uptoBulkAll {H : Type} : List (DataW H) → Nat
  | [] => 0
  | d :: r => uptoBulk d + uptoBulkAll r
def uptoBulkEntries {H : Type} : List (Lit × DataW H) → Nat
  | [] => 0
  | x :: r => uptoBulkEntry x + uptoBulkEntries r
def uptoBulkEntry {H : Type} : Lit × DataW H → Nat
  | (.string bytes, d) => bytes.length + uptoBulk d + 1
  | (_, d) => uptoBulk d + 1
 end
def uptoSmall : (H : Type) → List (DataW H) → Bool := fun _ ds => decide (uptoBulkAll ds ≤ 1048576)
def OpenSpec.upto (s : _root_.Go.ChangeSpec) : _root_.Go.OpenSpec := { _root_.Go.OpenSpec.ofChange s with cond := some uptoSmall }

/-- 'vernierlaw24.PivotTells', WHERE WHAT IT READS IS OF BULK AT MOST 1048576: true; the input reads as it did. -/
def pivotTellsUptoRow : OpenClaim := { program := "ytjljmccdlkdgoaa", sum := "40fc6e2e6d59a1edd7cee4b97e86585a523708f8ef359eb387ed2d61ea77e2bc", func := "vernier/vernierlaw24.PivotTells", spec := "pivotTells", unfollowed := true, recurses := true, apart := false, narrowed := true }
def PivotTellsUptoSaid : Prop := pivotTellsUptoRow.holds Try.pinned (OpenSpec.upto pivotTellsSpec)

/-- 'vernierlaw24.PivotBack', WHERE WHAT IT READS IS OF BULK AT MOST 1048576: true; the input reads as it did. -/
def pivotBackUptoRow : OpenClaim := { program := "ytjljmccdlkdgoaa", sum := "40fc6e2e6d59a1edd7cee4b97e86585a523708f8ef359eb387ed2d61ea77e2bc", func := "vernier/vernierlaw24.PivotBack", spec := "pivotBack", unfollowed := true, recurses := true, apart := false, narrowed := true }
def PivotBackUptoSaid : Prop := pivotBackUptoRow.holds Try.pinned (OpenSpec.upto pivotBackSpec)

/-- 'vernierlaw39.ScriptBack', WHERE WHAT IT READS IS OF BULK AT MOST 1048576: true; the input reads as it did. -/
def scriptBackUptoRow : OpenClaim := { program := "ytjljmccdlkdgoaa", sum := "40fc6e2e6d59a1edd7cee4b97e86585a523708f8ef359eb387ed2d61ea77e2bc", func := "vernier/vernierlaw39.ScriptBack", spec := "scriptBack", unfollowed := true, recurses := true, apart := false, narrowed := true }
def ScriptBackUptoSaid : Prop := scriptBackUptoRow.holds Try.pinned (OpenSpec.upto scriptBackSpec)

/-- 'vernierlaw39.ScriptCuts', WHERE WHAT IT READS IS OF BULK AT MOST 1048576: true; the input reads as it did. -/
def scriptCutsUptoRow : OpenClaim := { program := "ytjljmccdlkdgoaa", sum := "40fc6e2e6d59a1edd7cee4b97e86585a523708f8ef359eb387ed2d61ea77e2bc", func := "vernier/vernierlaw39.ScriptCuts", spec := "scriptCuts", unfollowed := true, recurses := true, apart := false, narrowed := true }
def ScriptCutsUptoSaid : Prop := scriptCutsUptoRow.holds Try.pinned (OpenSpec.upto scriptCutsSpec)

end Rows
end Go.Proofs.Ytjljmccdlkdgoaa
