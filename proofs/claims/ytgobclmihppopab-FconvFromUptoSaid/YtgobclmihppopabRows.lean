/-
  No cell of these rows narrows 'for every input' (looked for: loops, veiled, ifaces, maps, wideKeys, modest, calm, conditions, laid).
  DERIVED. THE GIVEN ROWS OF THIS SEAT. 11 by the template 'for every input the law returns true; each argument reads behind the call as it read before'; 0 by the template 'total and deterministic' (their statements: YtgobclmihppopabTotals.lean).
  GIVEN WITH THE SEED: the statements are not yours to turn. If you find one false, say at which input.
  Laid BY PROGRAM, IN A SANDBOX (cutbox-rows.mjs): the forced cells as the released guide's own fill.sh prints them over the translation 1e43bb855c752a6c… (all of the seat's roots in one cut). By AI agents, Wed Nov 11 2026. No macro, syntax, notation, axiom, sorry.
-/
import Derived.Test.YtgobclmihppopabChecked
import GoSem.Claim
import GoSem.ClaimJoined
import GoSem.ClaimMapViews
import Derived.JoinedTies
import Derived.KernelRfl
namespace Go.Proofs.Ytgobclmihppopab
/- THE CELL 'sum', in the pinned program and in every row, IS THE sha256 OF THE DUMP (.gsa) THAT YtgobclmihppopabProg.lean LOADS. Nothing in Lean hashes anything: it is a label: what it is worth is what the hold of that sum in a sandbox is worth. -/
noncomputable def Try.pinned : Pinned := { name := "ytgobclmihppopab", sum := "1e43bb855c752a6c18d687c2483285693a54404b0263f4ee578cbf124cafad9c", checked := Try.checked }
namespace Rows
def none {H : Type} : Left H := { results := [], args := [] }

/-- 'vernierlaw10.FsqrtBack': WHATEVER THE INPUT: true; the input reads as it did. -/
def fsqrtBackSpec : ChangeSpec := { name := "fsqrtBack", fn := fun _ => fun
  | [d1, d2] => { results := [.lit (.bool true)], args := [d1, d2] }
  | _ => none }
def fsqrtBackRow : OpenClaim := { program := "ytgobclmihppopab", sum := "1e43bb855c752a6c18d687c2483285693a54404b0263f4ee578cbf124cafad9c", func := "vernier/vernierlaw10.FsqrtBack", spec := "fsqrtBack", inPlace := ["math/bits.Add64", "math/bits.Sub64"], unfollowed := true, recurses := true, named := ["math/bits.divideError", "math/bits.overflowError"], apart := false }
def FsqrtBackSaid : Prop := fsqrtBackRow.holds Try.pinned (OpenSpec.ofChange fsqrtBackSpec)

/-- ITS FALSE NEIGHBOUR: 'it returns false'. Refute it at one input. -/
def fsqrtBackWrong : ChangeSpec := { name := "fsqrtBack", fn := fun _ => fun
  | [d1, d2] => { results := [.lit (.bool false)], args := [d1, d2] }
  | _ => none }
def FsqrtBackWrongFalsely : Prop := fsqrtBackRow.holds Try.pinned (OpenSpec.ofChange fsqrtBackWrong)

/-- 'vernierlaw10.FsqrtNear': WHATEVER THE INPUT: true; the input reads as it did. -/
def fsqrtNearSpec : ChangeSpec := { name := "fsqrtNear", fn := fun _ => fun
  | [d] => { results := [.lit (.bool true)], args := [d] }
  | _ => none }
def fsqrtNearRow : OpenClaim := { program := "ytgobclmihppopab", sum := "1e43bb855c752a6c18d687c2483285693a54404b0263f4ee578cbf124cafad9c", func := "vernier/vernierlaw10.FsqrtNear", spec := "fsqrtNear", inPlace := ["math/bits.Add64", "math/bits.Sub64"], unfollowed := true, recurses := true, named := ["math/bits.divideError", "math/bits.overflowError"], apart := false }
def FsqrtNearSaid : Prop := fsqrtNearRow.holds Try.pinned (OpenSpec.ofChange fsqrtNearSpec)

/-- ITS FALSE NEIGHBOUR: 'it returns false'. Refute it at one input. -/
def fsqrtNearWrong : ChangeSpec := { name := "fsqrtNear", fn := fun _ => fun
  | [d] => { results := [.lit (.bool false)], args := [d] }
  | _ => none }
def FsqrtNearWrongFalsely : Prop := fsqrtNearRow.holds Try.pinned (OpenSpec.ofChange fsqrtNearWrong)

/-- 'vernierlaw11.FfmaTells': WHATEVER THE INPUT: true; the input reads as it did. -/
def ffmaTellsSpec : ChangeSpec := { name := "ffmaTells", fn := fun _ => fun
  | [d1, d2, d3, d4] => { results := [.lit (.bool true)], args := [d1, d2, d3, d4] }
  | _ => none }
def ffmaTellsRow : OpenClaim := { program := "ytgobclmihppopab", sum := "1e43bb855c752a6c18d687c2483285693a54404b0263f4ee578cbf124cafad9c", func := "vernier/vernierlaw11.FfmaTells", spec := "ffmaTells", inPlace := ["math/bits.Add64", "math/bits.Sub64"], apart := false }
def FfmaTellsSaid : Prop := ffmaTellsRow.holds Try.pinned (OpenSpec.ofChange ffmaTellsSpec)

/-- ITS FALSE NEIGHBOUR: 'it returns false'. Refute it at one input. -/
def ffmaTellsWrong : ChangeSpec := { name := "ffmaTells", fn := fun _ => fun
  | [d1, d2, d3, d4] => { results := [.lit (.bool false)], args := [d1, d2, d3, d4] }
  | _ => none }
def FfmaTellsWrongFalsely : Prop := ffmaTellsRow.holds Try.pinned (OpenSpec.ofChange ffmaTellsWrong)

/-- 'vernierlaw11.FfmaParts': WHATEVER THE INPUT: true; the input reads as it did. -/
def ffmaPartsSpec : ChangeSpec := { name := "ffmaParts", fn := fun _ => fun
  | [d1, d2, d3] => { results := [.lit (.bool true)], args := [d1, d2, d3] }
  | _ => none }
def ffmaPartsRow : OpenClaim := { program := "ytgobclmihppopab", sum := "1e43bb855c752a6c18d687c2483285693a54404b0263f4ee578cbf124cafad9c", func := "vernier/vernierlaw11.FfmaParts", spec := "ffmaParts", inPlace := ["math/bits.Add64", "math/bits.Sub64"], apart := false }
def FfmaPartsSaid : Prop := ffmaPartsRow.holds Try.pinned (OpenSpec.ofChange ffmaPartsSpec)

/-- ITS FALSE NEIGHBOUR: 'it returns false'. Refute it at one input. -/
def ffmaPartsWrong : ChangeSpec := { name := "ffmaParts", fn := fun _ => fun
  | [d1, d2, d3] => { results := [.lit (.bool false)], args := [d1, d2, d3] }
  | _ => none }
def FfmaPartsWrongFalsely : Prop := ffmaPartsRow.holds Try.pinned (OpenSpec.ofChange ffmaPartsWrong)

/-- 'vernierlaw11.FfmaDots': WHATEVER THE INPUT: true; the input reads as it did. -/
def ffmaDotsSpec : ChangeSpec := { name := "ffmaDots", fn := fun _ => fun
  | [d1, d2, d3] => { results := [.lit (.bool true)], args := [d1, d2, d3] }
  | _ => none }
def ffmaDotsRow : OpenClaim := { program := "ytgobclmihppopab", sum := "1e43bb855c752a6c18d687c2483285693a54404b0263f4ee578cbf124cafad9c", func := "vernier/vernierlaw11.FfmaDots", spec := "ffmaDots", inPlace := ["math/bits.Add64", "math/bits.Sub64"], apart := false }
def FfmaDotsSaid : Prop := ffmaDotsRow.holds Try.pinned (OpenSpec.ofChange ffmaDotsSpec)

/-- ITS FALSE NEIGHBOUR: 'it returns false'. Refute it at one input. -/
def ffmaDotsWrong : ChangeSpec := { name := "ffmaDots", fn := fun _ => fun
  | [d1, d2, d3] => { results := [.lit (.bool false)], args := [d1, d2, d3] }
  | _ => none }
def FfmaDotsWrongFalsely : Prop := ffmaDotsRow.holds Try.pinned (OpenSpec.ofChange ffmaDotsWrong)

/-- 'vernierlaw12.FcmpTells': WHATEVER THE INPUT: true; the input reads as it did. -/
def fcmpTellsSpec : ChangeSpec := { name := "fcmpTells", fn := fun _ => fun
  | [d1, d2] => { results := [.lit (.bool true)], args := [d1, d2] }
  | _ => none }
def fcmpTellsRow : OpenClaim := { program := "ytgobclmihppopab", sum := "1e43bb855c752a6c18d687c2483285693a54404b0263f4ee578cbf124cafad9c", func := "vernier/vernierlaw12.FcmpTells", spec := "fcmpTells", apart := false }
def FcmpTellsSaid : Prop := fcmpTellsRow.holds Try.pinned (OpenSpec.ofChange fcmpTellsSpec)

/-- ITS FALSE NEIGHBOUR: 'it returns false'. Refute it at one input. -/
def fcmpTellsWrong : ChangeSpec := { name := "fcmpTells", fn := fun _ => fun
  | [d1, d2] => { results := [.lit (.bool false)], args := [d1, d2] }
  | _ => none }
def FcmpTellsWrongFalsely : Prop := fcmpTellsRow.holds Try.pinned (OpenSpec.ofChange fcmpTellsWrong)

/-- 'vernierlaw12.FcmpNext': WHATEVER THE INPUT: true; the input reads as it did. -/
def fcmpNextSpec : ChangeSpec := { name := "fcmpNext", fn := fun _ => fun
  | [d1, d2] => { results := [.lit (.bool true)], args := [d1, d2] }
  | _ => none }
def fcmpNextRow : OpenClaim := { program := "ytgobclmihppopab", sum := "1e43bb855c752a6c18d687c2483285693a54404b0263f4ee578cbf124cafad9c", func := "vernier/vernierlaw12.FcmpNext", spec := "fcmpNext", apart := false }
def FcmpNextSaid : Prop := fcmpNextRow.holds Try.pinned (OpenSpec.ofChange fcmpNextSpec)

/-- ITS FALSE NEIGHBOUR: 'it returns false'. Refute it at one input. -/
def fcmpNextWrong : ChangeSpec := { name := "fcmpNext", fn := fun _ => fun
  | [d1, d2] => { results := [.lit (.bool false)], args := [d1, d2] }
  | _ => none }
def FcmpNextWrongFalsely : Prop := fcmpNextRow.holds Try.pinned (OpenSpec.ofChange fcmpNextWrong)

/-- 'vernierlaw12.FcmpSigns': WHATEVER THE INPUT: true; the input reads as it did. -/
def fcmpSignsSpec : ChangeSpec := { name := "fcmpSigns", fn := fun _ => fun
  | [d1, d2] => { results := [.lit (.bool true)], args := [d1, d2] }
  | _ => none }
def fcmpSignsRow : OpenClaim := { program := "ytgobclmihppopab", sum := "1e43bb855c752a6c18d687c2483285693a54404b0263f4ee578cbf124cafad9c", func := "vernier/vernierlaw12.FcmpSigns", spec := "fcmpSigns", apart := false }
def FcmpSignsSaid : Prop := fcmpSignsRow.holds Try.pinned (OpenSpec.ofChange fcmpSignsSpec)

/-- ITS FALSE NEIGHBOUR: 'it returns false'. Refute it at one input. -/
def fcmpSignsWrong : ChangeSpec := { name := "fcmpSigns", fn := fun _ => fun
  | [d1, d2] => { results := [.lit (.bool false)], args := [d1, d2] }
  | _ => none }
def FcmpSignsWrongFalsely : Prop := fcmpSignsRow.holds Try.pinned (OpenSpec.ofChange fcmpSignsWrong)

/-- 'vernierlaw13.FconvFrom': WHATEVER THE INPUT: true; the input reads as it did. -/
def fconvFromSpec : ChangeSpec := { name := "fconvFrom", fn := fun _ => fun
  | [d1, d2, d3] => { results := [.lit (.bool true)], args := [d1, d2, d3] }
  | _ => none }
def fconvFromRow : OpenClaim := { program := "ytgobclmihppopab", sum := "1e43bb855c752a6c18d687c2483285693a54404b0263f4ee578cbf124cafad9c", func := "vernier/vernierlaw13.FconvFrom", spec := "fconvFrom", inPlace := ["math/bits.Sub64"], unfollowed := true, recurses := true, apart := false }
def FconvFromSaid : Prop := fconvFromRow.holds Try.pinned (OpenSpec.ofChange fconvFromSpec)

/-- ITS FALSE NEIGHBOUR: 'it returns false'. Refute it at one input. -/
def fconvFromWrong : ChangeSpec := { name := "fconvFrom", fn := fun _ => fun
  | [d1, d2, d3] => { results := [.lit (.bool false)], args := [d1, d2, d3] }
  | _ => none }
def FconvFromWrongFalsely : Prop := fconvFromRow.holds Try.pinned (OpenSpec.ofChange fconvFromWrong)

/-- 'vernierlaw13.FconvWhole': WHATEVER THE INPUT: true; the input reads as it did. -/
def fconvWholeSpec : ChangeSpec := { name := "fconvWhole", fn := fun _ => fun
  | [d1, d2] => { results := [.lit (.bool true)], args := [d1, d2] }
  | _ => none }
def fconvWholeRow : OpenClaim := { program := "ytgobclmihppopab", sum := "1e43bb855c752a6c18d687c2483285693a54404b0263f4ee578cbf124cafad9c", func := "vernier/vernierlaw13.FconvWhole", spec := "fconvWhole", inPlace := ["math/bits.Sub64"], apart := false }
def FconvWholeSaid : Prop := fconvWholeRow.holds Try.pinned (OpenSpec.ofChange fconvWholeSpec)

/-- ITS FALSE NEIGHBOUR: 'it returns false'. Refute it at one input. -/
def fconvWholeWrong : ChangeSpec := { name := "fconvWhole", fn := fun _ => fun
  | [d1, d2] => { results := [.lit (.bool false)], args := [d1, d2] }
  | _ => none }
def FconvWholeWrongFalsely : Prop := fconvWholeRow.holds Try.pinned (OpenSpec.ofChange fconvWholeWrong)

/-- 'vernierlaw13.FconvScales': WHATEVER THE INPUT: true; the input reads as it did. -/
def fconvScalesSpec : ChangeSpec := { name := "fconvScales", fn := fun _ => fun
  | [d1, d2] => { results := [.lit (.bool true)], args := [d1, d2] }
  | _ => none }
def fconvScalesRow : OpenClaim := { program := "ytgobclmihppopab", sum := "1e43bb855c752a6c18d687c2483285693a54404b0263f4ee578cbf124cafad9c", func := "vernier/vernierlaw13.FconvScales", spec := "fconvScales", inPlace := ["math/bits.Sub64"], unfollowed := true, recurses := true, apart := false }
def FconvScalesSaid : Prop := fconvScalesRow.holds Try.pinned (OpenSpec.ofChange fconvScalesSpec)

/-- ITS FALSE NEIGHBOUR: 'it returns false'. Refute it at one input. -/
def fconvScalesWrong : ChangeSpec := { name := "fconvScales", fn := fun _ => fun
  | [d1, d2] => { results := [.lit (.bool false)], args := [d1, d2] }
  | _ => none }
def FconvScalesWrongFalsely : Prop := fconvScalesRow.holds Try.pinned (OpenSpec.ofChange fconvScalesWrong)

/- THE SECOND FORM. 'bulk': how many values and letters a reading holds, each counted each time it is reached (what is shared counts as often as it is met; a slice's spare places count too). A statement '..UptoSaid' is the law's where the arguments, and the package variables that the reading takes, are together of bulk at most 1048576: NARROWER than '..Said'. Prove '..Said' where nothing that the law and all that it calls make is longer than what came in: it says more and counts as full. Else prove '..UptoSaid'. A law counts once. -/
mutual
def uptoBulk {H : Type} : DataW H → Nat
  | .lit (.string bytes) => bytes.length + 1
  | .lit _ => 1
  | .nil => 1
  | .ptr d => uptoBulk d + 1
  | .slice elems spare => uptoBulkAll elems + uptoBulkAll spare + 1
  | .agg parts => uptoBulkAll parts + 1
  | .iface _ d => uptoBulk d + 1
  | .map entries => uptoBulkEntries entries + 1
  | .held _ => 1
def uptoBulkAll {H : Type} : List (DataW H) → Nat
  | [] => 0
  | d :: r => uptoBulk d + uptoBulkAll r
def uptoBulkEntries {H : Type} : List (Lit × DataW H) → Nat
  | [] => 0
  | x :: r => uptoBulkEntry x + uptoBulkEntries r
def uptoBulkEntry {H : Type} : Lit × DataW H → Nat
  | (.string bytes, d) => bytes.length + uptoBulk d + 1
  | (_, d) => uptoBulk d + 1
 end
def uptoSmall : (H : Type) → List (DataW H) → Bool := fun _ ds => decide (uptoBulkAll ds ≤ 1048576)
def OpenSpec.upto (s : _root_.Go.ChangeSpec) : _root_.Go.OpenSpec := { _root_.Go.OpenSpec.ofChange s with cond := some uptoSmall }

/-- 'vernierlaw10.FsqrtBack', WHERE WHAT IT READS IS OF BULK AT MOST 1048576: true; the input reads as it did. -/
def fsqrtBackUptoRow : OpenClaim := { program := "ytgobclmihppopab", sum := "1e43bb855c752a6c18d687c2483285693a54404b0263f4ee578cbf124cafad9c", func := "vernier/vernierlaw10.FsqrtBack", spec := "fsqrtBack", inPlace := ["math/bits.Add64", "math/bits.Sub64"], unfollowed := true, recurses := true, named := ["math/bits.divideError", "math/bits.overflowError"], apart := false, narrowed := true }
def FsqrtBackUptoSaid : Prop := fsqrtBackUptoRow.holds Try.pinned (OpenSpec.upto fsqrtBackSpec)

/-- 'vernierlaw10.FsqrtNear', WHERE WHAT IT READS IS OF BULK AT MOST 1048576: true; the input reads as it did. -/
def fsqrtNearUptoRow : OpenClaim := { program := "ytgobclmihppopab", sum := "1e43bb855c752a6c18d687c2483285693a54404b0263f4ee578cbf124cafad9c", func := "vernier/vernierlaw10.FsqrtNear", spec := "fsqrtNear", inPlace := ["math/bits.Add64", "math/bits.Sub64"], unfollowed := true, recurses := true, named := ["math/bits.divideError", "math/bits.overflowError"], apart := false, narrowed := true }
def FsqrtNearUptoSaid : Prop := fsqrtNearUptoRow.holds Try.pinned (OpenSpec.upto fsqrtNearSpec)

/-- 'vernierlaw11.FfmaTells', WHERE WHAT IT READS IS OF BULK AT MOST 1048576: true; the input reads as it did. -/
def ffmaTellsUptoRow : OpenClaim := { program := "ytgobclmihppopab", sum := "1e43bb855c752a6c18d687c2483285693a54404b0263f4ee578cbf124cafad9c", func := "vernier/vernierlaw11.FfmaTells", spec := "ffmaTells", inPlace := ["math/bits.Add64", "math/bits.Sub64"], apart := false, narrowed := true }
def FfmaTellsUptoSaid : Prop := ffmaTellsUptoRow.holds Try.pinned (OpenSpec.upto ffmaTellsSpec)

/-- 'vernierlaw11.FfmaParts', WHERE WHAT IT READS IS OF BULK AT MOST 1048576: true; the input reads as it did. -/
def ffmaPartsUptoRow : OpenClaim := { program := "ytgobclmihppopab", sum := "1e43bb855c752a6c18d687c2483285693a54404b0263f4ee578cbf124cafad9c", func := "vernier/vernierlaw11.FfmaParts", spec := "ffmaParts", inPlace := ["math/bits.Add64", "math/bits.Sub64"], apart := false, narrowed := true }
def FfmaPartsUptoSaid : Prop := ffmaPartsUptoRow.holds Try.pinned (OpenSpec.upto ffmaPartsSpec)

/-- 'vernierlaw11.FfmaDots', WHERE WHAT IT READS IS OF BULK AT MOST 1048576: true; the input reads as it did. -/
def ffmaDotsUptoRow : OpenClaim := { program := "ytgobclmihppopab", sum := "1e43bb855c752a6c18d687c2483285693a54404b0263f4ee578cbf124cafad9c", func := "vernier/vernierlaw11.FfmaDots", spec := "ffmaDots", inPlace := ["math/bits.Add64", "math/bits.Sub64"], apart := false, narrowed := true }
def FfmaDotsUptoSaid : Prop := ffmaDotsUptoRow.holds Try.pinned (OpenSpec.upto ffmaDotsSpec)

/-- 'vernierlaw12.FcmpTells', WHERE WHAT IT READS IS OF BULK AT MOST 1048576: true; the input reads as it did. -/
def fcmpTellsUptoRow : OpenClaim := { program := "ytgobclmihppopab", sum := "1e43bb855c752a6c18d687c2483285693a54404b0263f4ee578cbf124cafad9c", func := "vernier/vernierlaw12.FcmpTells", spec := "fcmpTells", apart := false, narrowed := true }
def FcmpTellsUptoSaid : Prop := fcmpTellsUptoRow.holds Try.pinned (OpenSpec.upto fcmpTellsSpec)

/-- 'vernierlaw12.FcmpNext', WHERE WHAT IT READS IS OF BULK AT MOST 1048576: true; the input reads as it did. -/
def fcmpNextUptoRow : OpenClaim := { program := "ytgobclmihppopab", sum := "1e43bb855c752a6c18d687c2483285693a54404b0263f4ee578cbf124cafad9c", func := "vernier/vernierlaw12.FcmpNext", spec := "fcmpNext", apart := false, narrowed := true }
def FcmpNextUptoSaid : Prop := fcmpNextUptoRow.holds Try.pinned (OpenSpec.upto fcmpNextSpec)

/-- 'vernierlaw12.FcmpSigns', WHERE WHAT IT READS IS OF BULK AT MOST 1048576: true; the input reads as it did. -/
def fcmpSignsUptoRow : OpenClaim := { program := "ytgobclmihppopab", sum := "1e43bb855c752a6c18d687c2483285693a54404b0263f4ee578cbf124cafad9c", func := "vernier/vernierlaw12.FcmpSigns", spec := "fcmpSigns", apart := false, narrowed := true }
def FcmpSignsUptoSaid : Prop := fcmpSignsUptoRow.holds Try.pinned (OpenSpec.upto fcmpSignsSpec)

/-- 'vernierlaw13.FconvFrom', WHERE WHAT IT READS IS OF BULK AT MOST 1048576: true; the input reads as it did. -/
def fconvFromUptoRow : OpenClaim := { program := "ytgobclmihppopab", sum := "1e43bb855c752a6c18d687c2483285693a54404b0263f4ee578cbf124cafad9c", func := "vernier/vernierlaw13.FconvFrom", spec := "fconvFrom", inPlace := ["math/bits.Sub64"], unfollowed := true, recurses := true, apart := false, narrowed := true }
def FconvFromUptoSaid : Prop := fconvFromUptoRow.holds Try.pinned (OpenSpec.upto fconvFromSpec)

/-- 'vernierlaw13.FconvWhole', WHERE WHAT IT READS IS OF BULK AT MOST 1048576: true; the input reads as it did. -/
def fconvWholeUptoRow : OpenClaim := { program := "ytgobclmihppopab", sum := "1e43bb855c752a6c18d687c2483285693a54404b0263f4ee578cbf124cafad9c", func := "vernier/vernierlaw13.FconvWhole", spec := "fconvWhole", inPlace := ["math/bits.Sub64"], apart := false, narrowed := true }
def FconvWholeUptoSaid : Prop := fconvWholeUptoRow.holds Try.pinned (OpenSpec.upto fconvWholeSpec)

/-- 'vernierlaw13.FconvScales', WHERE WHAT IT READS IS OF BULK AT MOST 1048576: true; the input reads as it did. -/
def fconvScalesUptoRow : OpenClaim := { program := "ytgobclmihppopab", sum := "1e43bb855c752a6c18d687c2483285693a54404b0263f4ee578cbf124cafad9c", func := "vernier/vernierlaw13.FconvScales", spec := "fconvScales", inPlace := ["math/bits.Sub64"], unfollowed := true, recurses := true, apart := false, narrowed := true }
def FconvScalesUptoSaid : Prop := fconvScalesUptoRow.holds Try.pinned (OpenSpec.upto fconvScalesSpec)

end Rows
end Go.Proofs.Ytgobclmihppopab
