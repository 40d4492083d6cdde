/-
  No cell of these rows narrows 'for every input' (looked for: loops, veiled, ifaces, maps, wideKeys, modest, calm, conditions, laid).
  DERIVED. THE GIVEN ROWS OF THIS SEAT. 4 by the template 'for every input the law returns true; each argument reads behind the call as it read before'; 0 by the template 'total and deterministic' (their statements: YtcgdiodpniiegaaTotals.lean).
  GIVEN WITH THE SEED: the statements are not yours to turn. If you find one false, say at which input.
  Laid BY PROGRAM, IN A SANDBOX (cutbox-rows.mjs): the forced cells as the released guide's own fill.sh prints them over the translation 90891ffed33b02b7… (all of the seat's roots in one cut). By AI agents, Wed Nov 11 2026. No macro, syntax, notation, axiom, sorry.
-/
import Derived.Test.YtcgdiodpniiegaaChecked
import GoSem.Claim
import GoSem.ClaimJoined
import GoSem.ClaimMapViews
import Derived.JoinedTies
import Derived.KernelRfl
namespace Go.Proofs.Ytcgdiodpniiegaa
/- THE CELL 'sum', in the pinned program and in every row, IS THE sha256 OF THE DUMP (.gsa) THAT YtcgdiodpniiegaaProg.lean LOADS. Nothing in Lean hashes anything: it is a label: what it is worth is what the hold of that sum in a sandbox is worth. -/
noncomputable def Try.pinned : Pinned := { name := "ytcgdiodpniiegaa", sum := "90891ffed33b02b76db35839a1d91b534dfa3152af97a5e542b20d9e98c5ca17", checked := Try.checked }
namespace Rows
def none {H : Type} : Left H := { results := [], args := [] }

/-- 'vernierlaw06.PartsTells': WHATEVER THE INPUT: true; the input reads as it did. -/
def partsTellsSpec : ChangeSpec := { name := "partsTells", fn := fun _ => fun
  | [d1, d2] => { results := [.lit (.bool true)], args := [d1, d2] }
  | _ => none }
def partsTellsRow : OpenClaim := { program := "ytcgdiodpniiegaa", sum := "90891ffed33b02b76db35839a1d91b534dfa3152af97a5e542b20d9e98c5ca17", func := "vernier/vernierlaw06.PartsTells", spec := "partsTells", apart := false }
def PartsTellsSaid : Prop := partsTellsRow.holds Try.pinned (OpenSpec.ofChange partsTellsSpec)

/-- ITS FALSE NEIGHBOUR: 'it returns false'. Refute it at one input. -/
def partsTellsWrong : ChangeSpec := { name := "partsTells", fn := fun _ => fun
  | [d1, d2] => { results := [.lit (.bool false)], args := [d1, d2] }
  | _ => none }
def PartsTellsWrongFalsely : Prop := partsTellsRow.holds Try.pinned (OpenSpec.ofChange partsTellsWrong)

/-- 'vernierlaw06.PartsRounds': WHATEVER THE INPUT: true; the input reads as it did. -/
def partsRoundsSpec : ChangeSpec := { name := "partsRounds", fn := fun _ => fun
  | [d1, d2, d3, d4, d5, d6] => { results := [.lit (.bool true)], args := [d1, d2, d3, d4, d5, d6] }
  | _ => none }
def partsRoundsRow : OpenClaim := { program := "ytcgdiodpniiegaa", sum := "90891ffed33b02b76db35839a1d91b534dfa3152af97a5e542b20d9e98c5ca17", func := "vernier/vernierlaw06.PartsRounds", spec := "partsRounds", apart := false }
def PartsRoundsSaid : Prop := partsRoundsRow.holds Try.pinned (OpenSpec.ofChange partsRoundsSpec)

/-- ITS FALSE NEIGHBOUR: 'it returns false'. Refute it at one input. -/
def partsRoundsWrong : ChangeSpec := { name := "partsRounds", fn := fun _ => fun
  | [d1, d2, d3, d4, d5, d6] => { results := [.lit (.bool false)], args := [d1, d2, d3, d4, d5, d6] }
  | _ => none }
def PartsRoundsWrongFalsely : Prop := partsRoundsRow.holds Try.pinned (OpenSpec.ofChange partsRoundsWrong)

/-- 'vernierlaw06.PartsBack': WHATEVER THE INPUT: true; the input reads as it did. -/
def partsBackSpec : ChangeSpec := { name := "partsBack", fn := fun _ => fun
  | [d1, d2, d3, d4] => { results := [.lit (.bool true)], args := [d1, d2, d3, d4] }
  | _ => none }
def partsBackRow : OpenClaim := { program := "ytcgdiodpniiegaa", sum := "90891ffed33b02b76db35839a1d91b534dfa3152af97a5e542b20d9e98c5ca17", func := "vernier/vernierlaw06.PartsBack", spec := "partsBack", apart := false }
def PartsBackSaid : Prop := partsBackRow.holds Try.pinned (OpenSpec.ofChange partsBackSpec)

/-- ITS FALSE NEIGHBOUR: 'it returns false'. Refute it at one input. -/
def partsBackWrong : ChangeSpec := { name := "partsBack", fn := fun _ => fun
  | [d1, d2, d3, d4] => { results := [.lit (.bool false)], args := [d1, d2, d3, d4] }
  | _ => none }
def PartsBackWrongFalsely : Prop := partsBackRow.holds Try.pinned (OpenSpec.ofChange partsBackWrong)

/-- 'vernierlaw06.PartsModes': WHATEVER THE INPUT: true; the input reads as it did. -/
def partsModesSpec : ChangeSpec := { name := "partsModes", fn := fun _ => fun
  | [d1, d2, d3] => { results := [.lit (.bool true)], args := [d1, d2, d3] }
  | _ => none }
def partsModesRow : OpenClaim := { program := "ytcgdiodpniiegaa", sum := "90891ffed33b02b76db35839a1d91b534dfa3152af97a5e542b20d9e98c5ca17", func := "vernier/vernierlaw06.PartsModes", spec := "partsModes", apart := false }
def PartsModesSaid : Prop := partsModesRow.holds Try.pinned (OpenSpec.ofChange partsModesSpec)

/-- ITS FALSE NEIGHBOUR: 'it returns false'. Refute it at one input. -/
def partsModesWrong : ChangeSpec := { name := "partsModes", fn := fun _ => fun
  | [d1, d2, d3] => { results := [.lit (.bool false)], args := [d1, d2, d3] }
  | _ => none }
def PartsModesWrongFalsely : Prop := partsModesRow.holds Try.pinned (OpenSpec.ofChange partsModesWrong)

/- THE SECOND FORM. 'bulk': how many values and letters a reading holds, each counted each time it is reached (what is shared counts as often as it is met; a slice's spare places count too). A statement '..UptoSaid' is the law's where the arguments, and the package variables that the reading takes, are together of bulk at most 1048576: NARROWER than '..Said'. Prove '..Said' where nothing that the law and all that it calls make is longer than what came in: it says more and counts as full. Else prove '..UptoSaid'. A law counts once. -/
mutual
def uptoBulk {H : Type} : DataW H → Nat
  | .lit (.string bytes) => bytes.length + 1
  | .lit _ => 1
  | .nil => 1
  | .ptr d => uptoBulk d + 1
  | .slice elems spare => uptoBulkAll elems + uptoBulkAll spare + 1
  | .agg parts => uptoBulkAll parts + 1
  | .iface _ d => uptoBulk d + 1
  | .map entries => uptoBulkEntries entries + 1
  | .held _ => 1
def uptoBulkAll {H : Type} : List (DataW H) → Nat
  | [] => 0
  | d :: r => uptoBulk d + uptoBulkAll r
def uptoBulkEntries {H : Type} : List (Lit × DataW H) → Nat
  | [] => 0
  | x :: r => uptoBulkEntry x + uptoBulkEntries r
def uptoBulkEntry {H : Type} : Lit × DataW H → Nat
  | (.string bytes, d) => bytes.length + uptoBulk d + 1
  | (_, d) => uptoBulk d + 1
 end
def uptoSmall : (H : Type) → List (DataW H) → Bool := fun _ ds => decide (uptoBulkAll ds ≤ 1048576)
def OpenSpec.upto (s : _root_.Go.ChangeSpec) : _root_.Go.OpenSpec := { _root_.Go.OpenSpec.ofChange s with cond := some uptoSmall }

/-- 'vernierlaw06.PartsTells', WHERE WHAT IT READS IS OF BULK AT MOST 1048576: true; the input reads as it did. -/
def partsTellsUptoRow : OpenClaim := { program := "ytcgdiodpniiegaa", sum := "90891ffed33b02b76db35839a1d91b534dfa3152af97a5e542b20d9e98c5ca17", func := "vernier/vernierlaw06.PartsTells", spec := "partsTells", apart := false, narrowed := true }
def PartsTellsUptoSaid : Prop := partsTellsUptoRow.holds Try.pinned (OpenSpec.upto partsTellsSpec)

/-- 'vernierlaw06.PartsRounds', WHERE WHAT IT READS IS OF BULK AT MOST 1048576: true; the input reads as it did. -/
def partsRoundsUptoRow : OpenClaim := { program := "ytcgdiodpniiegaa", sum := "90891ffed33b02b76db35839a1d91b534dfa3152af97a5e542b20d9e98c5ca17", func := "vernier/vernierlaw06.PartsRounds", spec := "partsRounds", apart := false, narrowed := true }
def PartsRoundsUptoSaid : Prop := partsRoundsUptoRow.holds Try.pinned (OpenSpec.upto partsRoundsSpec)

/-- 'vernierlaw06.PartsBack', WHERE WHAT IT READS IS OF BULK AT MOST 1048576: true; the input reads as it did. -/
def partsBackUptoRow : OpenClaim := { program := "ytcgdiodpniiegaa", sum := "90891ffed33b02b76db35839a1d91b534dfa3152af97a5e542b20d9e98c5ca17", func := "vernier/vernierlaw06.PartsBack", spec := "partsBack", apart := false, narrowed := true }
def PartsBackUptoSaid : Prop := partsBackUptoRow.holds Try.pinned (OpenSpec.upto partsBackSpec)

/-- 'vernierlaw06.PartsModes', WHERE WHAT IT READS IS OF BULK AT MOST 1048576: true; the input reads as it did. -/
def partsModesUptoRow : OpenClaim := { program := "ytcgdiodpniiegaa", sum := "90891ffed33b02b76db35839a1d91b534dfa3152af97a5e542b20d9e98c5ca17", func := "vernier/vernierlaw06.PartsModes", spec := "partsModes", apart := false, narrowed := true }
def PartsModesUptoSaid : Prop := partsModesUptoRow.holds Try.pinned (OpenSpec.upto partsModesSpec)

end Rows
end Go.Proofs.Ytcgdiodpniiegaa
