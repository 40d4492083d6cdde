/-
  No cell of these rows narrows 'for every input' (looked for: loops, veiled, ifaces, maps, wideKeys, modest, calm, conditions, laid).
  DERIVED. THE GIVEN ROWS OF THIS SEAT. 11 by the template 'for every input the law returns true; each argument reads behind the call as it read before'; 0 by the template 'total and deterministic' (their statements: YtppbifijgkcpjaaTotals.lean).
  GIVEN WITH THE SEED: the statements are not yours to turn. If you find one false, say at which input.
  Laid BY PROGRAM, IN A SANDBOX (cutbox-rows.mjs): the forced cells as the released guide's own fill.sh prints them over the translation 8c6c95321adaa7c7… (all of the seat's roots in one cut). By AI agents, Wed Nov 11 2026. No macro, syntax, notation, axiom, sorry.
-/
import Derived.Test.YtppbifijgkcpjaaChecked
import GoSem.Claim
import GoSem.ClaimJoined
import GoSem.ClaimMapViews
import Derived.JoinedTies
import Derived.KernelRfl
namespace Go.Proofs.Ytppbifijgkcpjaa
/- THE CELL 'sum', in the pinned program and in every row, IS THE sha256 OF THE DUMP (.gsa) THAT YtppbifijgkcpjaaProg.lean LOADS. Nothing in Lean hashes anything: it is a label: what it is worth is what the hold of that sum in a sandbox is worth. -/
noncomputable def Try.pinned : Pinned := { name := "ytppbifijgkcpjaa", sum := "8c6c95321adaa7c758c5c9f754900ae09d268d2311cb1cd3f48dc7d0bf6d93d0", checked := Try.checked }
namespace Rows
def none {H : Type} : Left H := { results := [], args := [] }

/-- 'vernierlaw01.NatTells': WHATEVER THE INPUT: true; the input reads as it did. -/
def natTellsSpec : ChangeSpec := { name := "natTells", fn := fun _ => fun
  | [d1, d2] => { results := [.lit (.bool true)], args := [d1, d2] }
  | _ => none }
def natTellsRow : OpenClaim := { program := "ytppbifijgkcpjaa", sum := "8c6c95321adaa7c758c5c9f754900ae09d268d2311cb1cd3f48dc7d0bf6d93d0", func := "vernier/vernierlaw01.NatTells", spec := "natTells", inPlace := ["math/bits.Add64", "math/bits.Sub64"], unfollowed := true, recurses := true, apart := false }
def NatTellsSaid : Prop := natTellsRow.holds Try.pinned (OpenSpec.ofChange natTellsSpec)

/-- ITS FALSE NEIGHBOUR: 'it returns false'. Refute it at one input. -/
def natTellsWrong : ChangeSpec := { name := "natTells", fn := fun _ => fun
  | [d1, d2] => { results := [.lit (.bool false)], args := [d1, d2] }
  | _ => none }
def NatTellsWrongFalsely : Prop := natTellsRow.holds Try.pinned (OpenSpec.ofChange natTellsWrong)

/-- 'vernierlaw01.NatRing': WHATEVER THE INPUT: true; the input reads as it did. -/
def natRingSpec : ChangeSpec := { name := "natRing", fn := fun _ => fun
  | [d1, d2, d3] => { results := [.lit (.bool true)], args := [d1, d2, d3] }
  | _ => none }
def natRingRow : OpenClaim := { program := "ytppbifijgkcpjaa", sum := "8c6c95321adaa7c758c5c9f754900ae09d268d2311cb1cd3f48dc7d0bf6d93d0", func := "vernier/vernierlaw01.NatRing", spec := "natRing", inPlace := ["math/bits.Sub64", "math/bits.Add64"], unfollowed := true, recurses := true, apart := false }
def NatRingSaid : Prop := natRingRow.holds Try.pinned (OpenSpec.ofChange natRingSpec)

/-- ITS FALSE NEIGHBOUR: 'it returns false'. Refute it at one input. -/
def natRingWrong : ChangeSpec := { name := "natRing", fn := fun _ => fun
  | [d1, d2, d3] => { results := [.lit (.bool false)], args := [d1, d2, d3] }
  | _ => none }
def NatRingWrongFalsely : Prop := natRingRow.holds Try.pinned (OpenSpec.ofChange natRingWrong)

/-- 'vernierlaw01.NatApart': WHATEVER THE INPUT: true; the input reads as it did. -/
def natApartSpec : ChangeSpec := { name := "natApart", fn := fun _ => fun
  | [d1, d2] => { results := [.lit (.bool true)], args := [d1, d2] }
  | _ => none }
def natApartRow : OpenClaim := { program := "ytppbifijgkcpjaa", sum := "8c6c95321adaa7c758c5c9f754900ae09d268d2311cb1cd3f48dc7d0bf6d93d0", func := "vernier/vernierlaw01.NatApart", spec := "natApart", inPlace := ["math/bits.Sub64", "math/bits.Add64"], unfollowed := true, recurses := true, apart := false }
def NatApartSaid : Prop := natApartRow.holds Try.pinned (OpenSpec.ofChange natApartSpec)

/-- ITS FALSE NEIGHBOUR: 'it returns false'. Refute it at one input. -/
def natApartWrong : ChangeSpec := { name := "natApart", fn := fun _ => fun
  | [d1, d2] => { results := [.lit (.bool false)], args := [d1, d2] }
  | _ => none }
def NatApartWrongFalsely : Prop := natApartRow.holds Try.pinned (OpenSpec.ofChange natApartWrong)

/-- 'vernierlaw01.NatOwn': WHATEVER THE INPUT: true; the input reads as it did. -/
def natOwnSpec : ChangeSpec := { name := "natOwn", fn := fun _ => fun
  | [d1, d2] => { results := [.lit (.bool true)], args := [d1, d2] }
  | _ => none }
def natOwnRow : OpenClaim := { program := "ytppbifijgkcpjaa", sum := "8c6c95321adaa7c758c5c9f754900ae09d268d2311cb1cd3f48dc7d0bf6d93d0", func := "vernier/vernierlaw01.NatOwn", spec := "natOwn", inPlace := ["math/bits.Sub64", "math/bits.Add64"], unfollowed := true, recurses := true, apart := false }
def NatOwnSaid : Prop := natOwnRow.holds Try.pinned (OpenSpec.ofChange natOwnSpec)

/-- ITS FALSE NEIGHBOUR: 'it returns false'. Refute it at one input. -/
def natOwnWrong : ChangeSpec := { name := "natOwn", fn := fun _ => fun
  | [d1, d2] => { results := [.lit (.bool false)], args := [d1, d2] }
  | _ => none }
def NatOwnWrongFalsely : Prop := natOwnRow.holds Try.pinned (OpenSpec.ofChange natOwnWrong)

/-- 'vernierlaw02.NatdivTells': WHATEVER THE INPUT: true; the input reads as it did. -/
def natdivTellsSpec : ChangeSpec := { name := "natdivTells", fn := fun _ => fun
  | [d1, d2, d3] => { results := [.lit (.bool true)], args := [d1, d2, d3] }
  | _ => none }
def natdivTellsRow : OpenClaim := { program := "ytppbifijgkcpjaa", sum := "8c6c95321adaa7c758c5c9f754900ae09d268d2311cb1cd3f48dc7d0bf6d93d0", func := "vernier/vernierlaw02.NatdivTells", spec := "natdivTells", inPlace := ["math/bits.Add64", "math/bits.Sub64"], unfollowed := true, recurses := true, named := ["math/bits.divideError", "math/bits.overflowError"], apart := false }
def NatdivTellsSaid : Prop := natdivTellsRow.holds Try.pinned (OpenSpec.ofChange natdivTellsSpec)

/-- ITS FALSE NEIGHBOUR: 'it returns false'. Refute it at one input. -/
def natdivTellsWrong : ChangeSpec := { name := "natdivTells", fn := fun _ => fun
  | [d1, d2, d3] => { results := [.lit (.bool false)], args := [d1, d2, d3] }
  | _ => none }
def NatdivTellsWrongFalsely : Prop := natdivTellsRow.holds Try.pinned (OpenSpec.ofChange natdivTellsWrong)

/-- 'vernierlaw02.NatdivBack': WHATEVER THE INPUT: true; the input reads as it did. -/
def natdivBackSpec : ChangeSpec := { name := "natdivBack", fn := fun _ => fun
  | [d1, d2] => { results := [.lit (.bool true)], args := [d1, d2] }
  | _ => none }
def natdivBackRow : OpenClaim := { program := "ytppbifijgkcpjaa", sum := "8c6c95321adaa7c758c5c9f754900ae09d268d2311cb1cd3f48dc7d0bf6d93d0", func := "vernier/vernierlaw02.NatdivBack", spec := "natdivBack", inPlace := ["math/bits.Add64", "math/bits.Sub64"], unfollowed := true, recurses := true, named := ["math/bits.divideError", "math/bits.overflowError"], apart := false }
def NatdivBackSaid : Prop := natdivBackRow.holds Try.pinned (OpenSpec.ofChange natdivBackSpec)

/-- ITS FALSE NEIGHBOUR: 'it returns false'. Refute it at one input. -/
def natdivBackWrong : ChangeSpec := { name := "natdivBack", fn := fun _ => fun
  | [d1, d2] => { results := [.lit (.bool false)], args := [d1, d2] }
  | _ => none }
def NatdivBackWrongFalsely : Prop := natdivBackRow.holds Try.pinned (OpenSpec.ofChange natdivBackWrong)

/-- 'vernierlaw02.NatdivRoots': WHATEVER THE INPUT: true; the input reads as it did. -/
def natdivRootsSpec : ChangeSpec := { name := "natdivRoots", fn := fun _ => fun
  | [d] => { results := [.lit (.bool true)], args := [d] }
  | _ => none }
def natdivRootsRow : OpenClaim := { program := "ytppbifijgkcpjaa", sum := "8c6c95321adaa7c758c5c9f754900ae09d268d2311cb1cd3f48dc7d0bf6d93d0", func := "vernier/vernierlaw02.NatdivRoots", spec := "natdivRoots", inPlace := ["math/bits.Add64", "math/bits.Sub64"], unfollowed := true, recurses := true, named := ["math/bits.divideError", "math/bits.overflowError"], apart := false }
def NatdivRootsSaid : Prop := natdivRootsRow.holds Try.pinned (OpenSpec.ofChange natdivRootsSpec)

/-- ITS FALSE NEIGHBOUR: 'it returns false'. Refute it at one input. -/
def natdivRootsWrong : ChangeSpec := { name := "natdivRoots", fn := fun _ => fun
  | [d] => { results := [.lit (.bool false)], args := [d] }
  | _ => none }
def NatdivRootsWrongFalsely : Prop := natdivRootsRow.holds Try.pinned (OpenSpec.ofChange natdivRootsWrong)

/-- 'vernierlaw02.NatdivShifts': WHATEVER THE INPUT: true; the input reads as it did. -/
def natdivShiftsSpec : ChangeSpec := { name := "natdivShifts", fn := fun _ => fun
  | [d1, d2] => { results := [.lit (.bool true)], args := [d1, d2] }
  | _ => none }
def natdivShiftsRow : OpenClaim := { program := "ytppbifijgkcpjaa", sum := "8c6c95321adaa7c758c5c9f754900ae09d268d2311cb1cd3f48dc7d0bf6d93d0", func := "vernier/vernierlaw02.NatdivShifts", spec := "natdivShifts", inPlace := ["math/bits.Add64", "math/bits.Sub64"], unfollowed := true, recurses := true, named := ["math/bits.divideError", "math/bits.overflowError"], apart := false }
def NatdivShiftsSaid : Prop := natdivShiftsRow.holds Try.pinned (OpenSpec.ofChange natdivShiftsSpec)

/-- ITS FALSE NEIGHBOUR: 'it returns false'. Refute it at one input. -/
def natdivShiftsWrong : ChangeSpec := { name := "natdivShifts", fn := fun _ => fun
  | [d1, d2] => { results := [.lit (.bool false)], args := [d1, d2] }
  | _ => none }
def NatdivShiftsWrongFalsely : Prop := natdivShiftsRow.holds Try.pinned (OpenSpec.ofChange natdivShiftsWrong)

/-- 'vernierlaw03.WholeTells': WHATEVER THE INPUT: true; the input reads as it did. -/
def wholeTellsSpec : ChangeSpec := { name := "wholeTells", fn := fun _ => fun
  | [d1, d2, d3] => { results := [.lit (.bool true)], args := [d1, d2, d3] }
  | _ => none }
def wholeTellsRow : OpenClaim := { program := "ytppbifijgkcpjaa", sum := "8c6c95321adaa7c758c5c9f754900ae09d268d2311cb1cd3f48dc7d0bf6d93d0", func := "vernier/vernierlaw03.WholeTells", spec := "wholeTells", inPlace := ["math/bits.Add64", "math/bits.Sub64"], unfollowed := true, recurses := true, apart := false }
def WholeTellsSaid : Prop := wholeTellsRow.holds Try.pinned (OpenSpec.ofChange wholeTellsSpec)

/-- ITS FALSE NEIGHBOUR: 'it returns false'. Refute it at one input. -/
def wholeTellsWrong : ChangeSpec := { name := "wholeTells", fn := fun _ => fun
  | [d1, d2, d3] => { results := [.lit (.bool false)], args := [d1, d2, d3] }
  | _ => none }
def WholeTellsWrongFalsely : Prop := wholeTellsRow.holds Try.pinned (OpenSpec.ofChange wholeTellsWrong)

/-- 'vernierlaw03.WholeBack': WHATEVER THE INPUT: true; the input reads as it did. -/
def wholeBackSpec : ChangeSpec := { name := "wholeBack", fn := fun _ => fun
  | [d1, d2, d3] => { results := [.lit (.bool true)], args := [d1, d2, d3] }
  | _ => none }
def wholeBackRow : OpenClaim := { program := "ytppbifijgkcpjaa", sum := "8c6c95321adaa7c758c5c9f754900ae09d268d2311cb1cd3f48dc7d0bf6d93d0", func := "vernier/vernierlaw03.WholeBack", spec := "wholeBack", inPlace := ["math/bits.Add64", "math/bits.Sub64"], unfollowed := true, recurses := true, apart := false }
def WholeBackSaid : Prop := wholeBackRow.holds Try.pinned (OpenSpec.ofChange wholeBackSpec)

/-- ITS FALSE NEIGHBOUR: 'it returns false'. Refute it at one input. -/
def wholeBackWrong : ChangeSpec := { name := "wholeBack", fn := fun _ => fun
  | [d1, d2, d3] => { results := [.lit (.bool false)], args := [d1, d2, d3] }
  | _ => none }
def WholeBackWrongFalsely : Prop := wholeBackRow.holds Try.pinned (OpenSpec.ofChange wholeBackWrong)

/-- 'vernierlaw03.WholeOrder': WHATEVER THE INPUT: true; the input reads as it did. -/
def wholeOrderSpec : ChangeSpec := { name := "wholeOrder", fn := fun _ => fun
  | [d1, d2, d3] => { results := [.lit (.bool true)], args := [d1, d2, d3] }
  | _ => none }
def wholeOrderRow : OpenClaim := { program := "ytppbifijgkcpjaa", sum := "8c6c95321adaa7c758c5c9f754900ae09d268d2311cb1cd3f48dc7d0bf6d93d0", func := "vernier/vernierlaw03.WholeOrder", spec := "wholeOrder", inPlace := ["math/bits.Add64", "math/bits.Sub64"], unfollowed := true, recurses := true, apart := false }
def WholeOrderSaid : Prop := wholeOrderRow.holds Try.pinned (OpenSpec.ofChange wholeOrderSpec)

/-- ITS FALSE NEIGHBOUR: 'it returns false'. Refute it at one input. -/
def wholeOrderWrong : ChangeSpec := { name := "wholeOrder", fn := fun _ => fun
  | [d1, d2, d3] => { results := [.lit (.bool false)], args := [d1, d2, d3] }
  | _ => none }
def WholeOrderWrongFalsely : Prop := wholeOrderRow.holds Try.pinned (OpenSpec.ofChange wholeOrderWrong)

/- THE SECOND FORM. 'bulk': how many values and letters a reading holds, each counted each time it is reached (what is shared counts as often as it is met; a slice's spare places count too). A statement '..UptoSaid' is the law's where the arguments, and the package variables that the reading takes, are together of bulk at most 1048576: NARROWER than '..Said'. Prove '..Said' where nothing that the law and all that it calls make is longer than what came in: it says more and counts as full. Else prove '..UptoSaid'. A law counts once. -/
mutual
def uptoBulk {H : Type} : DataW H → Nat
  | .lit (.string bytes) => bytes.length + 1
  | .lit _ => 1
  | .nil => 1
  | .ptr d => uptoBulk d + 1
  | .slice elems spare => uptoBulkAll elems + uptoBulkAll spare + 1
  | .agg parts => uptoBulkAll parts + 1
  | .iface _ d => uptoBulk d + 1
  | .map entries => uptoBulkEntries entries + 1
  | .held _ => 1
def uptoBulkAll {H : Type} : List (DataW H) → Nat
  | [] => 0
  | d :: r => uptoBulk d + uptoBulkAll r
def uptoBulkEntries {H : Type} : List (Lit × DataW H) → Nat
  | [] => 0
  | x :: r => uptoBulkEntry x + uptoBulkEntries r
def uptoBulkEntry {H : Type} : Lit × DataW H → Nat
  | (.string bytes, d) => bytes.length + uptoBulk d + 1
  | (_, d) => uptoBulk d + 1
 end
def uptoSmall : (H : Type) → List (DataW H) → Bool := fun _ ds => decide (uptoBulkAll ds ≤ 1048576)
def OpenSpec.upto (s : _root_.Go.ChangeSpec) : _root_.Go.OpenSpec := { _root_.Go.OpenSpec.ofChange s with cond := some uptoSmall }

/-- 'vernierlaw01.NatTells', WHERE WHAT IT READS IS OF BULK AT MOST 1048576: true; the input reads as it did. -/
def natTellsUptoRow : OpenClaim := { program := "ytppbifijgkcpjaa", sum := "8c6c95321adaa7c758c5c9f754900ae09d268d2311cb1cd3f48dc7d0bf6d93d0", func := "vernier/vernierlaw01.NatTells", spec := "natTells", inPlace := ["math/bits.Add64", "math/bits.Sub64"], unfollowed := true, recurses := true, apart := false, narrowed := true }
def NatTellsUptoSaid : Prop := natTellsUptoRow.holds Try.pinned (OpenSpec.upto natTellsSpec)

/-- 'vernierlaw01.NatRing', WHERE WHAT IT READS IS OF BULK AT MOST 1048576: true; the input reads as it did. -/
def natRingUptoRow : OpenClaim := { program := "ytppbifijgkcpjaa", sum := "8c6c95321adaa7c758c5c9f754900ae09d268d2311cb1cd3f48dc7d0bf6d93d0", func := "vernier/vernierlaw01.NatRing", spec := "natRing", inPlace := ["math/bits.Sub64", "math/bits.Add64"], unfollowed := true, recurses := true, apart := false, narrowed := true }
def NatRingUptoSaid : Prop := natRingUptoRow.holds Try.pinned (OpenSpec.upto natRingSpec)

/-- 'vernierlaw01.NatApart', WHERE WHAT IT READS IS OF BULK AT MOST 1048576: true; the input reads as it did. -/
def natApartUptoRow : OpenClaim := { program := "ytppbifijgkcpjaa", sum := "8c6c95321adaa7c758c5c9f754900ae09d268d2311cb1cd3f48dc7d0bf6d93d0", func := "vernier/vernierlaw01.NatApart", spec := "natApart", inPlace := ["math/bits.Sub64", "math/bits.Add64"], unfollowed := true, recurses := true, apart := false, narrowed := true }
def NatApartUptoSaid : Prop := natApartUptoRow.holds Try.pinned (OpenSpec.upto natApartSpec)

/-- 'vernierlaw01.NatOwn', WHERE WHAT IT READS IS OF BULK AT MOST 1048576: true; the input reads as it did. -/
def natOwnUptoRow : OpenClaim := { program := "ytppbifijgkcpjaa", sum := "8c6c95321adaa7c758c5c9f754900ae09d268d2311cb1cd3f48dc7d0bf6d93d0", func := "vernier/vernierlaw01.NatOwn", spec := "natOwn", inPlace := ["math/bits.Sub64", "math/bits.Add64"], unfollowed := true, recurses := true, apart := false, narrowed := true }
def NatOwnUptoSaid : Prop := natOwnUptoRow.holds Try.pinned (OpenSpec.upto natOwnSpec)

/-- 'vernierlaw02.NatdivTells', WHERE WHAT IT READS IS OF BULK AT MOST 1048576: true; the input reads as it did. -/
def natdivTellsUptoRow : OpenClaim := { program := "ytppbifijgkcpjaa", sum := "8c6c95321adaa7c758c5c9f754900ae09d268d2311cb1cd3f48dc7d0bf6d93d0", func := "vernier/vernierlaw02.NatdivTells", spec := "natdivTells", inPlace := ["math/bits.Add64", "math/bits.Sub64"], unfollowed := true, recurses := true, named := ["math/bits.divideError", "math/bits.overflowError"], apart := false, narrowed := true }
def NatdivTellsUptoSaid : Prop := natdivTellsUptoRow.holds Try.pinned (OpenSpec.upto natdivTellsSpec)

/-- 'vernierlaw02.NatdivBack', WHERE WHAT IT READS IS OF BULK AT MOST 1048576: true; the input reads as it did. -/
def natdivBackUptoRow : OpenClaim := { program := "ytppbifijgkcpjaa", sum := "8c6c95321adaa7c758c5c9f754900ae09d268d2311cb1cd3f48dc7d0bf6d93d0", func := "vernier/vernierlaw02.NatdivBack", spec := "natdivBack", inPlace := ["math/bits.Add64", "math/bits.Sub64"], unfollowed := true, recurses := true, named := ["math/bits.divideError", "math/bits.overflowError"], apart := false, narrowed := true }
def NatdivBackUptoSaid : Prop := natdivBackUptoRow.holds Try.pinned (OpenSpec.upto natdivBackSpec)

/-- 'vernierlaw02.NatdivRoots', WHERE WHAT IT READS IS OF BULK AT MOST 1048576: true; the input reads as it did. -/
def natdivRootsUptoRow : OpenClaim := { program := "ytppbifijgkcpjaa", sum := "8c6c95321adaa7c758c5c9f754900ae09d268d2311cb1cd3f48dc7d0bf6d93d0", func := "vernier/vernierlaw02.NatdivRoots", spec := "natdivRoots", inPlace := ["math/bits.Add64", "math/bits.Sub64"], unfollowed := true, recurses := true, named := ["math/bits.divideError", "math/bits.overflowError"], apart := false, narrowed := true }
def NatdivRootsUptoSaid : Prop := natdivRootsUptoRow.holds Try.pinned (OpenSpec.upto natdivRootsSpec)

/-- 'vernierlaw02.NatdivShifts', WHERE WHAT IT READS IS OF BULK AT MOST 1048576: true; the input reads as it did. -/
def natdivShiftsUptoRow : OpenClaim := { program := "ytppbifijgkcpjaa", sum := "8c6c95321adaa7c758c5c9f754900ae09d268d2311cb1cd3f48dc7d0bf6d93d0", func := "vernier/vernierlaw02.NatdivShifts", spec := "natdivShifts", inPlace := ["math/bits.Add64", "math/bits.Sub64"], unfollowed := true, recurses := true, named := ["math/bits.divideError", "math/bits.overflowError"], apart := false, narrowed := true }
def NatdivShiftsUptoSaid : Prop := natdivShiftsUptoRow.holds Try.pinned (OpenSpec.upto natdivShiftsSpec)

/-- 'vernierlaw03.WholeTells', WHERE WHAT IT READS IS OF BULK AT MOST 1048576: true; the input reads as it did. -/
def wholeTellsUptoRow : OpenClaim := { program := "ytppbifijgkcpjaa", sum := "8c6c95321adaa7c758c5c9f754900ae09d268d2311cb1cd3f48dc7d0bf6d93d0", func := "vernier/vernierlaw03.WholeTells", spec := "wholeTells", inPlace := ["math/bits.Add64", "math/bits.Sub64"], unfollowed := true, recurses := true, apart := false, narrowed := true }
def WholeTellsUptoSaid : Prop := wholeTellsUptoRow.holds Try.pinned (OpenSpec.upto wholeTellsSpec)

/-- 'vernierlaw03.WholeBack', WHERE WHAT IT READS IS OF BULK AT MOST 1048576: true; the input reads as it did. -/
def wholeBackUptoRow : OpenClaim := { program := "ytppbifijgkcpjaa", sum := "8c6c95321adaa7c758c5c9f754900ae09d268d2311cb1cd3f48dc7d0bf6d93d0", func := "vernier/vernierlaw03.WholeBack", spec := "wholeBack", inPlace := ["math/bits.Add64", "math/bits.Sub64"], unfollowed := true, recurses := true, apart := false, narrowed := true }
def WholeBackUptoSaid : Prop := wholeBackUptoRow.holds Try.pinned (OpenSpec.upto wholeBackSpec)

/-- 'vernierlaw03.WholeOrder', WHERE WHAT IT READS IS OF BULK AT MOST 1048576: true; the input reads as it did. -/
def wholeOrderUptoRow : OpenClaim := { program := "ytppbifijgkcpjaa", sum := "8c6c95321adaa7c758c5c9f754900ae09d268d2311cb1cd3f48dc7d0bf6d93d0", func := "vernier/vernierlaw03.WholeOrder", spec := "wholeOrder", inPlace := ["math/bits.Add64", "math/bits.Sub64"], unfollowed := true, recurses := true, apart := false, narrowed := true }
def WholeOrderUptoSaid : Prop := wholeOrderUptoRow.holds Try.pinned (OpenSpec.upto wholeOrderSpec)

end Rows
end Go.Proofs.Ytppbifijgkcpjaa
