/-
  No cell of these rows narrows 'for every input' (looked for: loops, veiled, ifaces, maps, wideKeys, modest, calm, conditions, laid).
  DERIVED. THE GIVEN ROWS OF THIS SEAT. 12 by the template 'for every input the law returns true; each argument reads behind the call as it read before'; 0 by the template 'total and deterministic' (their statements: YtgobclmihppopaaTotals.lean).
  GIVEN WITH THE SEED: the statements are not yours to turn. If you find one false, say at which input.
  Laid BY PROGRAM, IN A SANDBOX (cutbox-rows.mjs): the forced cells as the released guide's own fill.sh prints them over the translation 305c99f6ebb097da… (all of the seat's roots in one cut). By AI agents, Wed Nov 11 2026. No macro, syntax, notation, axiom, sorry.
-/
import Derived.Test.YtgobclmihppopaaChecked
import GoSem.Claim
import GoSem.ClaimJoined
import GoSem.ClaimMapViews
import Derived.JoinedTies
import Derived.KernelRfl
namespace Go.Proofs.Ytgobclmihppopaa
/- THE CELL 'sum', in the pinned program and in every row, IS THE sha256 OF THE DUMP (.gsa) THAT YtgobclmihppopaaProg.lean LOADS. Nothing in Lean hashes anything: it is a label: what it is worth is what the hold of that sum in a sandbox is worth. -/
noncomputable def Try.pinned : Pinned := { name := "ytgobclmihppopaa", sum := "305c99f6ebb097da1bab3ec746a899cc52d59fbc5b4487ef68299897e91e2392", checked := Try.checked }
namespace Rows
def none {H : Type} : Left H := { results := [], args := [] }

/-- 'vernierlaw07.FaddTells': WHATEVER THE INPUT: true; the input reads as it did. -/
def faddTellsSpec : ChangeSpec := { name := "faddTells", fn := fun _ => fun
  | [d1, d2, d3] => { results := [.lit (.bool true)], args := [d1, d2, d3] }
  | _ => none }
def faddTellsRow : OpenClaim := { program := "ytgobclmihppopaa", sum := "305c99f6ebb097da1bab3ec746a899cc52d59fbc5b4487ef68299897e91e2392", func := "vernier/vernierlaw07.FaddTells", spec := "faddTells", inPlace := ["math/bits.Sub64"], apart := false }
def FaddTellsSaid : Prop := faddTellsRow.holds Try.pinned (OpenSpec.ofChange faddTellsSpec)

/-- ITS FALSE NEIGHBOUR: 'it returns false'. Refute it at one input. -/
def faddTellsWrong : ChangeSpec := { name := "faddTells", fn := fun _ => fun
  | [d1, d2, d3] => { results := [.lit (.bool false)], args := [d1, d2, d3] }
  | _ => none }
def FaddTellsWrongFalsely : Prop := faddTellsRow.holds Try.pinned (OpenSpec.ofChange faddTellsWrong)

/-- 'vernierlaw07.FaddOrder': WHATEVER THE INPUT: true; the input reads as it did. -/
def faddOrderSpec : ChangeSpec := { name := "faddOrder", fn := fun _ => fun
  | [d1, d2, d3] => { results := [.lit (.bool true)], args := [d1, d2, d3] }
  | _ => none }
def faddOrderRow : OpenClaim := { program := "ytgobclmihppopaa", sum := "305c99f6ebb097da1bab3ec746a899cc52d59fbc5b4487ef68299897e91e2392", func := "vernier/vernierlaw07.FaddOrder", spec := "faddOrder", inPlace := ["math/bits.Sub64"], apart := false }
def FaddOrderSaid : Prop := faddOrderRow.holds Try.pinned (OpenSpec.ofChange faddOrderSpec)

/-- ITS FALSE NEIGHBOUR: 'it returns false'. Refute it at one input. -/
def faddOrderWrong : ChangeSpec := { name := "faddOrder", fn := fun _ => fun
  | [d1, d2, d3] => { results := [.lit (.bool false)], args := [d1, d2, d3] }
  | _ => none }
def FaddOrderWrongFalsely : Prop := faddOrderRow.holds Try.pinned (OpenSpec.ofChange faddOrderWrong)

/-- 'vernierlaw07.FaddSums': WHATEVER THE INPUT: true; the input reads as it did. -/
def faddSumsSpec : ChangeSpec := { name := "faddSums", fn := fun _ => fun
  | [d1, d2] => { results := [.lit (.bool true)], args := [d1, d2] }
  | _ => none }
def faddSumsRow : OpenClaim := { program := "ytgobclmihppopaa", sum := "305c99f6ebb097da1bab3ec746a899cc52d59fbc5b4487ef68299897e91e2392", func := "vernier/vernierlaw07.FaddSums", spec := "faddSums", inPlace := ["math/bits.Sub64"], apart := false }
def FaddSumsSaid : Prop := faddSumsRow.holds Try.pinned (OpenSpec.ofChange faddSumsSpec)

/-- ITS FALSE NEIGHBOUR: 'it returns false'. Refute it at one input. -/
def faddSumsWrong : ChangeSpec := { name := "faddSums", fn := fun _ => fun
  | [d1, d2] => { results := [.lit (.bool false)], args := [d1, d2] }
  | _ => none }
def FaddSumsWrongFalsely : Prop := faddSumsRow.holds Try.pinned (OpenSpec.ofChange faddSumsWrong)

/-- 'vernierlaw07.FaddExact': WHATEVER THE INPUT: true; the input reads as it did. -/
def faddExactSpec : ChangeSpec := { name := "faddExact", fn := fun _ => fun
  | [d1, d2, d3, d4, d5] => { results := [.lit (.bool true)], args := [d1, d2, d3, d4, d5] }
  | _ => none }
def faddExactRow : OpenClaim := { program := "ytgobclmihppopaa", sum := "305c99f6ebb097da1bab3ec746a899cc52d59fbc5b4487ef68299897e91e2392", func := "vernier/vernierlaw07.FaddExact", spec := "faddExact", inPlace := ["math/bits.Sub64"], apart := false }
def FaddExactSaid : Prop := faddExactRow.holds Try.pinned (OpenSpec.ofChange faddExactSpec)

/-- ITS FALSE NEIGHBOUR: 'it returns false'. Refute it at one input. -/
def faddExactWrong : ChangeSpec := { name := "faddExact", fn := fun _ => fun
  | [d1, d2, d3, d4, d5] => { results := [.lit (.bool false)], args := [d1, d2, d3, d4, d5] }
  | _ => none }
def FaddExactWrongFalsely : Prop := faddExactRow.holds Try.pinned (OpenSpec.ofChange faddExactWrong)

/-- 'vernierlaw08.FmulTells': WHATEVER THE INPUT: true; the input reads as it did. -/
def fmulTellsSpec : ChangeSpec := { name := "fmulTells", fn := fun _ => fun
  | [d1, d2, d3] => { results := [.lit (.bool true)], args := [d1, d2, d3] }
  | _ => none }
def fmulTellsRow : OpenClaim := { program := "ytgobclmihppopaa", sum := "305c99f6ebb097da1bab3ec746a899cc52d59fbc5b4487ef68299897e91e2392", func := "vernier/vernierlaw08.FmulTells", spec := "fmulTells", apart := false }
def FmulTellsSaid : Prop := fmulTellsRow.holds Try.pinned (OpenSpec.ofChange fmulTellsSpec)

/-- ITS FALSE NEIGHBOUR: 'it returns false'. Refute it at one input. -/
def fmulTellsWrong : ChangeSpec := { name := "fmulTells", fn := fun _ => fun
  | [d1, d2, d3] => { results := [.lit (.bool false)], args := [d1, d2, d3] }
  | _ => none }
def FmulTellsWrongFalsely : Prop := fmulTellsRow.holds Try.pinned (OpenSpec.ofChange fmulTellsWrong)

/-- 'vernierlaw08.FmulOrder': WHATEVER THE INPUT: true; the input reads as it did. -/
def fmulOrderSpec : ChangeSpec := { name := "fmulOrder", fn := fun _ => fun
  | [d1, d2, d3] => { results := [.lit (.bool true)], args := [d1, d2, d3] }
  | _ => none }
def fmulOrderRow : OpenClaim := { program := "ytgobclmihppopaa", sum := "305c99f6ebb097da1bab3ec746a899cc52d59fbc5b4487ef68299897e91e2392", func := "vernier/vernierlaw08.FmulOrder", spec := "fmulOrder", apart := false }
def FmulOrderSaid : Prop := fmulOrderRow.holds Try.pinned (OpenSpec.ofChange fmulOrderSpec)

/-- ITS FALSE NEIGHBOUR: 'it returns false'. Refute it at one input. -/
def fmulOrderWrong : ChangeSpec := { name := "fmulOrder", fn := fun _ => fun
  | [d1, d2, d3] => { results := [.lit (.bool false)], args := [d1, d2, d3] }
  | _ => none }
def FmulOrderWrongFalsely : Prop := fmulOrderRow.holds Try.pinned (OpenSpec.ofChange fmulOrderWrong)

/-- 'vernierlaw08.FmulScales': WHATEVER THE INPUT: true; the input reads as it did. -/
def fmulScalesSpec : ChangeSpec := { name := "fmulScales", fn := fun _ => fun
  | [d1, d2, d3] => { results := [.lit (.bool true)], args := [d1, d2, d3] }
  | _ => none }
def fmulScalesRow : OpenClaim := { program := "ytgobclmihppopaa", sum := "305c99f6ebb097da1bab3ec746a899cc52d59fbc5b4487ef68299897e91e2392", func := "vernier/vernierlaw08.FmulScales", spec := "fmulScales", apart := false }
def FmulScalesSaid : Prop := fmulScalesRow.holds Try.pinned (OpenSpec.ofChange fmulScalesSpec)

/-- ITS FALSE NEIGHBOUR: 'it returns false'. Refute it at one input. -/
def fmulScalesWrong : ChangeSpec := { name := "fmulScales", fn := fun _ => fun
  | [d1, d2, d3] => { results := [.lit (.bool false)], args := [d1, d2, d3] }
  | _ => none }
def FmulScalesWrongFalsely : Prop := fmulScalesRow.holds Try.pinned (OpenSpec.ofChange fmulScalesWrong)

/-- 'vernierlaw08.FmulTwo': WHATEVER THE INPUT: true; the input reads as it did. -/
def fmulTwoSpec : ChangeSpec := { name := "fmulTwo", fn := fun _ => fun
  | [d1, d2] => { results := [.lit (.bool true)], args := [d1, d2] }
  | _ => none }
def fmulTwoRow : OpenClaim := { program := "ytgobclmihppopaa", sum := "305c99f6ebb097da1bab3ec746a899cc52d59fbc5b4487ef68299897e91e2392", func := "vernier/vernierlaw08.FmulTwo", spec := "fmulTwo", apart := false }
def FmulTwoSaid : Prop := fmulTwoRow.holds Try.pinned (OpenSpec.ofChange fmulTwoSpec)

/-- ITS FALSE NEIGHBOUR: 'it returns false'. Refute it at one input. -/
def fmulTwoWrong : ChangeSpec := { name := "fmulTwo", fn := fun _ => fun
  | [d1, d2] => { results := [.lit (.bool false)], args := [d1, d2] }
  | _ => none }
def FmulTwoWrongFalsely : Prop := fmulTwoRow.holds Try.pinned (OpenSpec.ofChange fmulTwoWrong)

/-- 'vernierlaw09.FdivTells': WHATEVER THE INPUT: true; the input reads as it did. -/
def fdivTellsSpec : ChangeSpec := { name := "fdivTells", fn := fun _ => fun
  | [d1, d2, d3] => { results := [.lit (.bool true)], args := [d1, d2, d3] }
  | _ => none }
def fdivTellsRow : OpenClaim := { program := "ytgobclmihppopaa", sum := "305c99f6ebb097da1bab3ec746a899cc52d59fbc5b4487ef68299897e91e2392", func := "vernier/vernierlaw09.FdivTells", spec := "fdivTells", named := ["math/bits.divideError", "math/bits.overflowError"], apart := false }
def FdivTellsSaid : Prop := fdivTellsRow.holds Try.pinned (OpenSpec.ofChange fdivTellsSpec)

/-- ITS FALSE NEIGHBOUR: 'it returns false'. Refute it at one input. -/
def fdivTellsWrong : ChangeSpec := { name := "fdivTells", fn := fun _ => fun
  | [d1, d2, d3] => { results := [.lit (.bool false)], args := [d1, d2, d3] }
  | _ => none }
def FdivTellsWrongFalsely : Prop := fdivTellsRow.holds Try.pinned (OpenSpec.ofChange fdivTellsWrong)

/-- 'vernierlaw09.FdivSelf': WHATEVER THE INPUT: true; the input reads as it did. -/
def fdivSelfSpec : ChangeSpec := { name := "fdivSelf", fn := fun _ => fun
  | [d1, d2] => { results := [.lit (.bool true)], args := [d1, d2] }
  | _ => none }
def fdivSelfRow : OpenClaim := { program := "ytgobclmihppopaa", sum := "305c99f6ebb097da1bab3ec746a899cc52d59fbc5b4487ef68299897e91e2392", func := "vernier/vernierlaw09.FdivSelf", spec := "fdivSelf", named := ["math/bits.divideError", "math/bits.overflowError"], apart := false }
def FdivSelfSaid : Prop := fdivSelfRow.holds Try.pinned (OpenSpec.ofChange fdivSelfSpec)

/-- ITS FALSE NEIGHBOUR: 'it returns false'. Refute it at one input. -/
def fdivSelfWrong : ChangeSpec := { name := "fdivSelf", fn := fun _ => fun
  | [d1, d2] => { results := [.lit (.bool false)], args := [d1, d2] }
  | _ => none }
def FdivSelfWrongFalsely : Prop := fdivSelfRow.holds Try.pinned (OpenSpec.ofChange fdivSelfWrong)

/-- 'vernierlaw09.FdivBack': WHATEVER THE INPUT: true; the input reads as it did. -/
def fdivBackSpec : ChangeSpec := { name := "fdivBack", fn := fun _ => fun
  | [d1, d2] => { results := [.lit (.bool true)], args := [d1, d2] }
  | _ => none }
def fdivBackRow : OpenClaim := { program := "ytgobclmihppopaa", sum := "305c99f6ebb097da1bab3ec746a899cc52d59fbc5b4487ef68299897e91e2392", func := "vernier/vernierlaw09.FdivBack", spec := "fdivBack", named := ["math/bits.divideError", "math/bits.overflowError"], apart := false }
def FdivBackSaid : Prop := fdivBackRow.holds Try.pinned (OpenSpec.ofChange fdivBackSpec)

/-- ITS FALSE NEIGHBOUR: 'it returns false'. Refute it at one input. -/
def fdivBackWrong : ChangeSpec := { name := "fdivBack", fn := fun _ => fun
  | [d1, d2] => { results := [.lit (.bool false)], args := [d1, d2] }
  | _ => none }
def FdivBackWrongFalsely : Prop := fdivBackRow.holds Try.pinned (OpenSpec.ofChange fdivBackWrong)

/-- 'vernierlaw10.FsqrtTells': WHATEVER THE INPUT: true; the input reads as it did. -/
def fsqrtTellsSpec : ChangeSpec := { name := "fsqrtTells", fn := fun _ => fun
  | [d1, d2] => { results := [.lit (.bool true)], args := [d1, d2] }
  | _ => none }
def fsqrtTellsRow : OpenClaim := { program := "ytgobclmihppopaa", sum := "305c99f6ebb097da1bab3ec746a899cc52d59fbc5b4487ef68299897e91e2392", func := "vernier/vernierlaw10.FsqrtTells", spec := "fsqrtTells", inPlace := ["math/bits.Add64", "math/bits.Sub64"], unfollowed := true, recurses := true, named := ["math/bits.divideError", "math/bits.overflowError"], apart := false }
def FsqrtTellsSaid : Prop := fsqrtTellsRow.holds Try.pinned (OpenSpec.ofChange fsqrtTellsSpec)

/-- ITS FALSE NEIGHBOUR: 'it returns false'. Refute it at one input. -/
def fsqrtTellsWrong : ChangeSpec := { name := "fsqrtTells", fn := fun _ => fun
  | [d1, d2] => { results := [.lit (.bool false)], args := [d1, d2] }
  | _ => none }
def FsqrtTellsWrongFalsely : Prop := fsqrtTellsRow.holds Try.pinned (OpenSpec.ofChange fsqrtTellsWrong)

/- THE SECOND FORM. 'bulk': how many values and letters a reading holds, each counted each time it is reached (what is shared counts as often as it is met; a slice's spare places count too). A statement '..UptoSaid' is the law's where the arguments, and the package variables that the reading takes, are together of bulk at most 1048576: NARROWER than '..Said'. Prove '..Said' where nothing that the law and all that it calls make is longer than what came in: it says more and counts as full. Else prove '..UptoSaid'. A law counts once. -/
mutual
def uptoBulk {H : Type} : DataW H → Nat
  | .lit (.string bytes) => bytes.length + 1
  | .lit _ => 1
  | .nil => 1
  | .ptr d => uptoBulk d + 1
  | .slice elems spare => uptoBulkAll elems + uptoBulkAll spare + 1
  | .agg parts => uptoBulkAll parts + 1
  | .iface _ d => uptoBulk d + 1
  | .map entries => uptoBulkEntries entries + 1
  | .held _ => 1
def uptoBulkAll {H : Type} : List (DataW H) → Nat
  | [] => 0
  | d :: r => uptoBulk d + uptoBulkAll r
def uptoBulkEntries {H : Type} : List (Lit × DataW H) → Nat
  | [] => 0
  | x :: r => uptoBulkEntry x + uptoBulkEntries r
def uptoBulkEntry {H : Type} : Lit × DataW H → Nat
  | (.string bytes, d) => bytes.length + uptoBulk d + 1
  | (_, d) => uptoBulk d + 1
 end
def uptoSmall : (H : Type) → List (DataW H) → Bool := fun _ ds => decide (uptoBulkAll ds ≤ 1048576)
def OpenSpec.upto (s : _root_.Go.ChangeSpec) : _root_.Go.OpenSpec := { _root_.Go.OpenSpec.ofChange s with cond := some uptoSmall }

/-- 'vernierlaw07.FaddTells', WHERE WHAT IT READS IS OF BULK AT MOST 1048576: true; the input reads as it did. -/
def faddTellsUptoRow : OpenClaim := { program := "ytgobclmihppopaa", sum := "305c99f6ebb097da1bab3ec746a899cc52d59fbc5b4487ef68299897e91e2392", func := "vernier/vernierlaw07.FaddTells", spec := "faddTells", inPlace := ["math/bits.Sub64"], apart := false, narrowed := true }
def FaddTellsUptoSaid : Prop := faddTellsUptoRow.holds Try.pinned (OpenSpec.upto faddTellsSpec)

/-- 'vernierlaw07.FaddOrder', WHERE WHAT IT READS IS OF BULK AT MOST 1048576: true; the input reads as it did. -/
def faddOrderUptoRow : OpenClaim := { program := "ytgobclmihppopaa", sum := "305c99f6ebb097da1bab3ec746a899cc52d59fbc5b4487ef68299897e91e2392", func := "vernier/vernierlaw07.FaddOrder", spec := "faddOrder", inPlace := ["math/bits.Sub64"], apart := false, narrowed := true }
def FaddOrderUptoSaid : Prop := faddOrderUptoRow.holds Try.pinned (OpenSpec.upto faddOrderSpec)

/-- 'vernierlaw07.FaddSums', WHERE WHAT IT READS IS OF BULK AT MOST 1048576: true; the input reads as it did. -/
def faddSumsUptoRow : OpenClaim := { program := "ytgobclmihppopaa", sum := "305c99f6ebb097da1bab3ec746a899cc52d59fbc5b4487ef68299897e91e2392", func := "vernier/vernierlaw07.FaddSums", spec := "faddSums", inPlace := ["math/bits.Sub64"], apart := false, narrowed := true }
def FaddSumsUptoSaid : Prop := faddSumsUptoRow.holds Try.pinned (OpenSpec.upto faddSumsSpec)

/-- 'vernierlaw07.FaddExact', WHERE WHAT IT READS IS OF BULK AT MOST 1048576: true; the input reads as it did. -/
def faddExactUptoRow : OpenClaim := { program := "ytgobclmihppopaa", sum := "305c99f6ebb097da1bab3ec746a899cc52d59fbc5b4487ef68299897e91e2392", func := "vernier/vernierlaw07.FaddExact", spec := "faddExact", inPlace := ["math/bits.Sub64"], apart := false, narrowed := true }
def FaddExactUptoSaid : Prop := faddExactUptoRow.holds Try.pinned (OpenSpec.upto faddExactSpec)

/-- 'vernierlaw08.FmulTells', WHERE WHAT IT READS IS OF BULK AT MOST 1048576: true; the input reads as it did. -/
def fmulTellsUptoRow : OpenClaim := { program := "ytgobclmihppopaa", sum := "305c99f6ebb097da1bab3ec746a899cc52d59fbc5b4487ef68299897e91e2392", func := "vernier/vernierlaw08.FmulTells", spec := "fmulTells", apart := false, narrowed := true }
def FmulTellsUptoSaid : Prop := fmulTellsUptoRow.holds Try.pinned (OpenSpec.upto fmulTellsSpec)

/-- 'vernierlaw08.FmulOrder', WHERE WHAT IT READS IS OF BULK AT MOST 1048576: true; the input reads as it did. -/
def fmulOrderUptoRow : OpenClaim := { program := "ytgobclmihppopaa", sum := "305c99f6ebb097da1bab3ec746a899cc52d59fbc5b4487ef68299897e91e2392", func := "vernier/vernierlaw08.FmulOrder", spec := "fmulOrder", apart := false, narrowed := true }
def FmulOrderUptoSaid : Prop := fmulOrderUptoRow.holds Try.pinned (OpenSpec.upto fmulOrderSpec)

/-- 'vernierlaw08.FmulScales', WHERE WHAT IT READS IS OF BULK AT MOST 1048576: true; the input reads as it did. -/
def fmulScalesUptoRow : OpenClaim := { program := "ytgobclmihppopaa", sum := "305c99f6ebb097da1bab3ec746a899cc52d59fbc5b4487ef68299897e91e2392", func := "vernier/vernierlaw08.FmulScales", spec := "fmulScales", apart := false, narrowed := true }
def FmulScalesUptoSaid : Prop := fmulScalesUptoRow.holds Try.pinned (OpenSpec.upto fmulScalesSpec)

/-- 'vernierlaw08.FmulTwo', WHERE WHAT IT READS IS OF BULK AT MOST 1048576: true; the input reads as it did. -/
def fmulTwoUptoRow : OpenClaim := { program := "ytgobclmihppopaa", sum := "305c99f6ebb097da1bab3ec746a899cc52d59fbc5b4487ef68299897e91e2392", func := "vernier/vernierlaw08.FmulTwo", spec := "fmulTwo", apart := false, narrowed := true }
def FmulTwoUptoSaid : Prop := fmulTwoUptoRow.holds Try.pinned (OpenSpec.upto fmulTwoSpec)

/-- 'vernierlaw09.FdivTells', WHERE WHAT IT READS IS OF BULK AT MOST 1048576: true; the input reads as it did. -/
def fdivTellsUptoRow : OpenClaim := { program := "ytgobclmihppopaa", sum := "305c99f6ebb097da1bab3ec746a899cc52d59fbc5b4487ef68299897e91e2392", func := "vernier/vernierlaw09.FdivTells", spec := "fdivTells", named := ["math/bits.divideError", "math/bits.overflowError"], apart := false, narrowed := true }
def FdivTellsUptoSaid : Prop := fdivTellsUptoRow.holds Try.pinned (OpenSpec.upto fdivTellsSpec)

/-- 'vernierlaw09.FdivSelf', WHERE WHAT IT READS IS OF BULK AT MOST 1048576: true; the input reads as it did. -/
def fdivSelfUptoRow : OpenClaim := { program := "ytgobclmihppopaa", sum := "305c99f6ebb097da1bab3ec746a899cc52d59fbc5b4487ef68299897e91e2392", func := "vernier/vernierlaw09.FdivSelf", spec := "fdivSelf", named := ["math/bits.divideError", "math/bits.overflowError"], apart := false, narrowed := true }
def FdivSelfUptoSaid : Prop := fdivSelfUptoRow.holds Try.pinned (OpenSpec.upto fdivSelfSpec)

/-- 'vernierlaw09.FdivBack', WHERE WHAT IT READS IS OF BULK AT MOST 1048576: true; the input reads as it did. -/
def fdivBackUptoRow : OpenClaim := { program := "ytgobclmihppopaa", sum := "305c99f6ebb097da1bab3ec746a899cc52d59fbc5b4487ef68299897e91e2392", func := "vernier/vernierlaw09.FdivBack", spec := "fdivBack", named := ["math/bits.divideError", "math/bits.overflowError"], apart := false, narrowed := true }
def FdivBackUptoSaid : Prop := fdivBackUptoRow.holds Try.pinned (OpenSpec.upto fdivBackSpec)

/-- 'vernierlaw10.FsqrtTells', WHERE WHAT IT READS IS OF BULK AT MOST 1048576: true; the input reads as it did. -/
def fsqrtTellsUptoRow : OpenClaim := { program := "ytgobclmihppopaa", sum := "305c99f6ebb097da1bab3ec746a899cc52d59fbc5b4487ef68299897e91e2392", func := "vernier/vernierlaw10.FsqrtTells", spec := "fsqrtTells", inPlace := ["math/bits.Add64", "math/bits.Sub64"], unfollowed := true, recurses := true, named := ["math/bits.divideError", "math/bits.overflowError"], apart := false, narrowed := true }
def FsqrtTellsUptoSaid : Prop := fsqrtTellsUptoRow.holds Try.pinned (OpenSpec.upto fsqrtTellsSpec)

end Rows
end Go.Proofs.Ytgobclmihppopaa
