/-
  No cell of these rows narrows 'for every input' (looked for: loops, veiled, ifaces, maps, wideKeys, modest, calm, conditions, laid).
  DERIVED. THE GIVEN ROWS OF THIS SEAT. 12 by the template 'for every input the law returns true; each argument reads behind the call as it read before'; 0 by the template 'total and deterministic' (their statements: YtaefalmabphadaaTotals.lean).
  GIVEN WITH THE SEED: the statements are not yours to turn. If you find one false, say at which input.
  Laid BY PROGRAM, IN A SANDBOX (cutbox-rows.mjs): the forced cells as the released guide's own fill.sh prints them over the translation 2175d727577f2394… (all of the seat's roots in one cut). By AI agents, Wed Nov 11 2026. No macro, syntax, notation, axiom, sorry.
-/
import Derived.Test.YtaefalmabphadaaChecked
import GoSem.Claim
import GoSem.ClaimJoined
import GoSem.ClaimMapViews
import Derived.JoinedTies
import Derived.KernelRfl
namespace Go.Proofs.Ytaefalmabphadaa
/- THE CELL 'sum', in the pinned program and in every row, IS THE sha256 OF THE DUMP (.gsa) THAT YtaefalmabphadaaProg.lean LOADS. Nothing in Lean hashes anything: it is a label: what it is worth is what the hold of that sum in a sandbox is worth. -/
noncomputable def Try.pinned : Pinned := { name := "ytaefalmabphadaa", sum := "2175d727577f23941c9310b9e57f0420efee686208608cd3a90195338d54ec00", checked := Try.checked }
namespace Rows
def none {H : Type} : Left H := { results := [], args := [] }

/-- 'vernierlaw14.ShapeTells': WHATEVER THE INPUT: true; the input reads as it did. -/
def shapeTellsSpec : ChangeSpec := { name := "shapeTells", fn := fun _ => fun
  | [d1, d2, d3, d4] => { results := [.lit (.bool true)], args := [d1, d2, d3, d4] }
  | _ => none }
def shapeTellsRow : OpenClaim := { program := "ytaefalmabphadaa", sum := "2175d727577f23941c9310b9e57f0420efee686208608cd3a90195338d54ec00", func := "vernier/vernierlaw14.ShapeTells", spec := "shapeTells", unfollowed := true, recurses := true, apart := false }
def ShapeTellsSaid : Prop := shapeTellsRow.holds Try.pinned (OpenSpec.ofChange shapeTellsSpec)

/-- ITS FALSE NEIGHBOUR: 'it returns false'. Refute it at one input. -/
def shapeTellsWrong : ChangeSpec := { name := "shapeTells", fn := fun _ => fun
  | [d1, d2, d3, d4] => { results := [.lit (.bool false)], args := [d1, d2, d3, d4] }
  | _ => none }
def ShapeTellsWrongFalsely : Prop := shapeTellsRow.holds Try.pinned (OpenSpec.ofChange shapeTellsWrong)

/-- 'vernierlaw14.ShapeTurns': WHATEVER THE INPUT: true; the input reads as it did. -/
def shapeTurnsSpec : ChangeSpec := { name := "shapeTurns", fn := fun _ => fun
  | [d] => { results := [.lit (.bool true)], args := [d] }
  | _ => none }
def shapeTurnsRow : OpenClaim := { program := "ytaefalmabphadaa", sum := "2175d727577f23941c9310b9e57f0420efee686208608cd3a90195338d54ec00", func := "vernier/vernierlaw14.ShapeTurns", spec := "shapeTurns", unfollowed := true, recurses := true, apart := false }
def ShapeTurnsSaid : Prop := shapeTurnsRow.holds Try.pinned (OpenSpec.ofChange shapeTurnsSpec)

/-- ITS FALSE NEIGHBOUR: 'it returns false'. Refute it at one input. -/
def shapeTurnsWrong : ChangeSpec := { name := "shapeTurns", fn := fun _ => fun
  | [d] => { results := [.lit (.bool false)], args := [d] }
  | _ => none }
def ShapeTurnsWrongFalsely : Prop := shapeTurnsRow.holds Try.pinned (OpenSpec.ofChange shapeTurnsWrong)

/-- 'vernierlaw15.ViewTells': WHATEVER THE INPUT: true; the input reads as it did. -/
def viewTellsSpec : ChangeSpec := { name := "viewTells", fn := fun _ => fun
  | [d1, d2, d3, d4] => { results := [.lit (.bool true)], args := [d1, d2, d3, d4] }
  | _ => none }
def viewTellsRow : OpenClaim := { program := "ytaefalmabphadaa", sum := "2175d727577f23941c9310b9e57f0420efee686208608cd3a90195338d54ec00", func := "vernier/vernierlaw15.ViewTells", spec := "viewTells", apart := false }
def ViewTellsSaid : Prop := viewTellsRow.holds Try.pinned (OpenSpec.ofChange viewTellsSpec)

/-- ITS FALSE NEIGHBOUR: 'it returns false'. Refute it at one input. -/
def viewTellsWrong : ChangeSpec := { name := "viewTells", fn := fun _ => fun
  | [d1, d2, d3, d4] => { results := [.lit (.bool false)], args := [d1, d2, d3, d4] }
  | _ => none }
def ViewTellsWrongFalsely : Prop := viewTellsRow.holds Try.pinned (OpenSpec.ofChange viewTellsWrong)

/-- 'vernierlaw15.ViewParts': WHATEVER THE INPUT: true; the input reads as it did. -/
def viewPartsSpec : ChangeSpec := { name := "viewParts", fn := fun _ => fun
  | [d1, d2, d3, d4, d5, d6] => { results := [.lit (.bool true)], args := [d1, d2, d3, d4, d5, d6] }
  | _ => none }
def viewPartsRow : OpenClaim := { program := "ytaefalmabphadaa", sum := "2175d727577f23941c9310b9e57f0420efee686208608cd3a90195338d54ec00", func := "vernier/vernierlaw15.ViewParts", spec := "viewParts", apart := false }
def ViewPartsSaid : Prop := viewPartsRow.holds Try.pinned (OpenSpec.ofChange viewPartsSpec)

/-- ITS FALSE NEIGHBOUR: 'it returns false'. Refute it at one input. -/
def viewPartsWrong : ChangeSpec := { name := "viewParts", fn := fun _ => fun
  | [d1, d2, d3, d4, d5, d6] => { results := [.lit (.bool false)], args := [d1, d2, d3, d4, d5, d6] }
  | _ => none }
def ViewPartsWrongFalsely : Prop := viewPartsRow.holds Try.pinned (OpenSpec.ofChange viewPartsWrong)

/-- 'vernierlaw15.ViewPlaces': WHATEVER THE INPUT: true; the input reads as it did. -/
def viewPlacesSpec : ChangeSpec := { name := "viewPlaces", fn := fun _ => fun
  | [d1, d2] => { results := [.lit (.bool true)], args := [d1, d2] }
  | _ => none }
def viewPlacesRow : OpenClaim := { program := "ytaefalmabphadaa", sum := "2175d727577f23941c9310b9e57f0420efee686208608cd3a90195338d54ec00", func := "vernier/vernierlaw15.ViewPlaces", spec := "viewPlaces", apart := false }
def ViewPlacesSaid : Prop := viewPlacesRow.holds Try.pinned (OpenSpec.ofChange viewPlacesSpec)

/-- ITS FALSE NEIGHBOUR: 'it returns false'. Refute it at one input. -/
def viewPlacesWrong : ChangeSpec := { name := "viewPlaces", fn := fun _ => fun
  | [d1, d2] => { results := [.lit (.bool false)], args := [d1, d2] }
  | _ => none }
def ViewPlacesWrongFalsely : Prop := viewPlacesRow.holds Try.pinned (OpenSpec.ofChange viewPlacesWrong)

/-- 'vernierlaw16.MortonTells': WHATEVER THE INPUT: true; the input reads as it did. -/
def mortonTellsSpec : ChangeSpec := { name := "mortonTells", fn := fun _ => fun
  | [d1, d2, d3, d4, d5, d6] => { results := [.lit (.bool true)], args := [d1, d2, d3, d4, d5, d6] }
  | _ => none }
def mortonTellsRow : OpenClaim := { program := "ytaefalmabphadaa", sum := "2175d727577f23941c9310b9e57f0420efee686208608cd3a90195338d54ec00", func := "vernier/vernierlaw16.MortonTells", spec := "mortonTells", apart := false }
def MortonTellsSaid : Prop := mortonTellsRow.holds Try.pinned (OpenSpec.ofChange mortonTellsSpec)

/-- ITS FALSE NEIGHBOUR: 'it returns false'. Refute it at one input. -/
def mortonTellsWrong : ChangeSpec := { name := "mortonTells", fn := fun _ => fun
  | [d1, d2, d3, d4, d5, d6] => { results := [.lit (.bool false)], args := [d1, d2, d3, d4, d5, d6] }
  | _ => none }
def MortonTellsWrongFalsely : Prop := mortonTellsRow.holds Try.pinned (OpenSpec.ofChange mortonTellsWrong)

/-- 'vernierlaw16.MortonBack': WHATEVER THE INPUT: true; the input reads as it did. -/
def mortonBackSpec : ChangeSpec := { name := "mortonBack", fn := fun _ => fun
  | [d1, d2] => { results := [.lit (.bool true)], args := [d1, d2] }
  | _ => none }
def mortonBackRow : OpenClaim := { program := "ytaefalmabphadaa", sum := "2175d727577f23941c9310b9e57f0420efee686208608cd3a90195338d54ec00", func := "vernier/vernierlaw16.MortonBack", spec := "mortonBack", apart := false }
def MortonBackSaid : Prop := mortonBackRow.holds Try.pinned (OpenSpec.ofChange mortonBackSpec)

/-- ITS FALSE NEIGHBOUR: 'it returns false'. Refute it at one input. -/
def mortonBackWrong : ChangeSpec := { name := "mortonBack", fn := fun _ => fun
  | [d1, d2] => { results := [.lit (.bool false)], args := [d1, d2] }
  | _ => none }
def MortonBackWrongFalsely : Prop := mortonBackRow.holds Try.pinned (OpenSpec.ofChange mortonBackWrong)

/-- 'vernierlaw16.MortonApart': WHATEVER THE INPUT: true; the input reads as it did. -/
def mortonApartSpec : ChangeSpec := { name := "mortonApart", fn := fun _ => fun
  | [d1, d2, d3, d4, d5] => { results := [.lit (.bool true)], args := [d1, d2, d3, d4, d5] }
  | _ => none }
def mortonApartRow : OpenClaim := { program := "ytaefalmabphadaa", sum := "2175d727577f23941c9310b9e57f0420efee686208608cd3a90195338d54ec00", func := "vernier/vernierlaw16.MortonApart", spec := "mortonApart", apart := false }
def MortonApartSaid : Prop := mortonApartRow.holds Try.pinned (OpenSpec.ofChange mortonApartSpec)

/-- ITS FALSE NEIGHBOUR: 'it returns false'. Refute it at one input. -/
def mortonApartWrong : ChangeSpec := { name := "mortonApart", fn := fun _ => fun
  | [d1, d2, d3, d4, d5] => { results := [.lit (.bool false)], args := [d1, d2, d3, d4, d5] }
  | _ => none }
def MortonApartWrongFalsely : Prop := mortonApartRow.holds Try.pinned (OpenSpec.ofChange mortonApartWrong)

/-- 'vernierlaw16.MortonFrom': WHATEVER THE INPUT: true; the input reads as it did. -/
def mortonFromSpec : ChangeSpec := { name := "mortonFrom", fn := fun _ => fun
  | [d1, d2, d3, d4] => { results := [.lit (.bool true)], args := [d1, d2, d3, d4] }
  | _ => none }
def mortonFromRow : OpenClaim := { program := "ytaefalmabphadaa", sum := "2175d727577f23941c9310b9e57f0420efee686208608cd3a90195338d54ec00", func := "vernier/vernierlaw16.MortonFrom", spec := "mortonFrom", apart := false }
def MortonFromSaid : Prop := mortonFromRow.holds Try.pinned (OpenSpec.ofChange mortonFromSpec)

/-- ITS FALSE NEIGHBOUR: 'it returns false'. Refute it at one input. -/
def mortonFromWrong : ChangeSpec := { name := "mortonFrom", fn := fun _ => fun
  | [d1, d2, d3, d4] => { results := [.lit (.bool false)], args := [d1, d2, d3, d4] }
  | _ => none }
def MortonFromWrongFalsely : Prop := mortonFromRow.holds Try.pinned (OpenSpec.ofChange mortonFromWrong)

/-- 'vernierlaw17.PermTells': WHATEVER THE INPUT: true; the input reads as it did. -/
def permTellsSpec : ChangeSpec := { name := "permTells", fn := fun _ => fun
  | [d1, d2, d3] => { results := [.lit (.bool true)], args := [d1, d2, d3] }
  | _ => none }
def permTellsRow : OpenClaim := { program := "ytaefalmabphadaa", sum := "2175d727577f23941c9310b9e57f0420efee686208608cd3a90195338d54ec00", func := "vernier/vernierlaw17.PermTells", spec := "permTells", unfollowed := true, recurses := true, apart := false }
def PermTellsSaid : Prop := permTellsRow.holds Try.pinned (OpenSpec.ofChange permTellsSpec)

/-- ITS FALSE NEIGHBOUR: 'it returns false'. Refute it at one input. -/
def permTellsWrong : ChangeSpec := { name := "permTells", fn := fun _ => fun
  | [d1, d2, d3] => { results := [.lit (.bool false)], args := [d1, d2, d3] }
  | _ => none }
def PermTellsWrongFalsely : Prop := permTellsRow.holds Try.pinned (OpenSpec.ofChange permTellsWrong)

/-- 'vernierlaw17.PermSwaps': WHATEVER THE INPUT: true; the input reads as it did. -/
def permSwapsSpec : ChangeSpec := { name := "permSwaps", fn := fun _ => fun
  | [d1, d2] => { results := [.lit (.bool true)], args := [d1, d2] }
  | _ => none }
def permSwapsRow : OpenClaim := { program := "ytaefalmabphadaa", sum := "2175d727577f23941c9310b9e57f0420efee686208608cd3a90195338d54ec00", func := "vernier/vernierlaw17.PermSwaps", spec := "permSwaps", unfollowed := true, recurses := true, apart := false }
def PermSwapsSaid : Prop := permSwapsRow.holds Try.pinned (OpenSpec.ofChange permSwapsSpec)

/-- ITS FALSE NEIGHBOUR: 'it returns false'. Refute it at one input. -/
def permSwapsWrong : ChangeSpec := { name := "permSwaps", fn := fun _ => fun
  | [d1, d2] => { results := [.lit (.bool false)], args := [d1, d2] }
  | _ => none }
def PermSwapsWrongFalsely : Prop := permSwapsRow.holds Try.pinned (OpenSpec.ofChange permSwapsWrong)

/-- 'vernierlaw17.PermRows': WHATEVER THE INPUT: true; the input reads as it did. -/
def permRowsSpec : ChangeSpec := { name := "permRows", fn := fun _ => fun
  | [d1, d2] => { results := [.lit (.bool true)], args := [d1, d2] }
  | _ => none }
def permRowsRow : OpenClaim := { program := "ytaefalmabphadaa", sum := "2175d727577f23941c9310b9e57f0420efee686208608cd3a90195338d54ec00", func := "vernier/vernierlaw17.PermRows", spec := "permRows", unfollowed := true, recurses := true, apart := false }
def PermRowsSaid : Prop := permRowsRow.holds Try.pinned (OpenSpec.ofChange permRowsSpec)

/-- ITS FALSE NEIGHBOUR: 'it returns false'. Refute it at one input. -/
def permRowsWrong : ChangeSpec := { name := "permRows", fn := fun _ => fun
  | [d1, d2] => { results := [.lit (.bool false)], args := [d1, d2] }
  | _ => none }
def PermRowsWrongFalsely : Prop := permRowsRow.holds Try.pinned (OpenSpec.ofChange permRowsWrong)

/- THE SECOND FORM. 'bulk': how many values and letters a reading holds, each counted each time it is reached (what is shared counts as often as it is met; a slice's spare places count too). A statement '..UptoSaid' is the law's where the arguments, and the package variables that the reading takes, are together of bulk at most 1048576: NARROWER than '..Said'. Prove '..Said' where nothing that the law and all that it calls make is longer than what came in: it says more and counts as full. Else prove '..UptoSaid'. A law counts once. -/
mutual
def uptoBulk {H : Type} : DataW H → Nat
  | .lit (.string bytes) => bytes.length + 1
  | .lit _ => 1
  | .nil => 1
  | .ptr d => uptoBulk d + 1
  | .slice elems spare => uptoBulkAll elems + uptoBulkAll spare + 1
  | .agg parts => uptoBulkAll parts + 1
  | .iface _ d => uptoBulk d + 1
  | .map entries => uptoBulkEntries entries + 1
  | .held _ => 1
def uptoBulkAll {H : Type} : List (DataW H) → Nat
  | [] => 0
  | d :: r => uptoBulk d + uptoBulkAll r
def uptoBulkEntries {H : Type} : List (Lit × DataW H) → Nat
  | [] => 0
  | x :: r => uptoBulkEntry x + uptoBulkEntries r
def uptoBulkEntry {H : Type} : Lit × DataW H → Nat
  | (.string bytes, d) => bytes.length + uptoBulk d + 1
  | (_, d) => uptoBulk d + 1
 end
def uptoSmall : (H : Type) → List (DataW H) → Bool := fun _ ds => decide (uptoBulkAll ds ≤ 1048576)
def OpenSpec.upto (s : _root_.Go.ChangeSpec) : _root_.Go.OpenSpec := { _root_.Go.OpenSpec.ofChange s with cond := some uptoSmall }

/-- 'vernierlaw14.ShapeTells', WHERE WHAT IT READS IS OF BULK AT MOST 1048576: true; the input reads as it did. -/
def shapeTellsUptoRow : OpenClaim := { program := "ytaefalmabphadaa", sum := "2175d727577f23941c9310b9e57f0420efee686208608cd3a90195338d54ec00", func := "vernier/vernierlaw14.ShapeTells", spec := "shapeTells", unfollowed := true, recurses := true, apart := false, narrowed := true }
def ShapeTellsUptoSaid : Prop := shapeTellsUptoRow.holds Try.pinned (OpenSpec.upto shapeTellsSpec)

/-- 'vernierlaw14.ShapeTurns', WHERE WHAT IT READS IS OF BULK AT MOST 1048576: true; the input reads as it did. -/
def shapeTurnsUptoRow : OpenClaim := { program := "ytaefalmabphadaa", sum := "2175d727577f23941c9310b9e57f0420efee686208608cd3a90195338d54ec00", func := "vernier/vernierlaw14.ShapeTurns", spec := "shapeTurns", unfollowed := true, recurses := true, apart := false, narrowed := true }
def ShapeTurnsUptoSaid : Prop := shapeTurnsUptoRow.holds Try.pinned (OpenSpec.upto shapeTurnsSpec)

/-- 'vernierlaw15.ViewTells', WHERE WHAT IT READS IS OF BULK AT MOST 1048576: true; the input reads as it did. -/
def viewTellsUptoRow : OpenClaim := { program := "ytaefalmabphadaa", sum := "2175d727577f23941c9310b9e57f0420efee686208608cd3a90195338d54ec00", func := "vernier/vernierlaw15.ViewTells", spec := "viewTells", apart := false, narrowed := true }
def ViewTellsUptoSaid : Prop := viewTellsUptoRow.holds Try.pinned (OpenSpec.upto viewTellsSpec)

/-- 'vernierlaw15.ViewParts', WHERE WHAT IT READS IS OF BULK AT MOST 1048576: true; the input reads as it did. -/
def viewPartsUptoRow : OpenClaim := { program := "ytaefalmabphadaa", sum := "2175d727577f23941c9310b9e57f0420efee686208608cd3a90195338d54ec00", func := "vernier/vernierlaw15.ViewParts", spec := "viewParts", apart := false, narrowed := true }
def ViewPartsUptoSaid : Prop := viewPartsUptoRow.holds Try.pinned (OpenSpec.upto viewPartsSpec)

/-- 'vernierlaw15.ViewPlaces', WHERE WHAT IT READS IS OF BULK AT MOST 1048576: true; the input reads as it did. -/
def viewPlacesUptoRow : OpenClaim := { program := "ytaefalmabphadaa", sum := "2175d727577f23941c9310b9e57f0420efee686208608cd3a90195338d54ec00", func := "vernier/vernierlaw15.ViewPlaces", spec := "viewPlaces", apart := false, narrowed := true }
def ViewPlacesUptoSaid : Prop := viewPlacesUptoRow.holds Try.pinned (OpenSpec.upto viewPlacesSpec)

/-- 'vernierlaw16.MortonTells', WHERE WHAT IT READS IS OF BULK AT MOST 1048576: true; the input reads as it did. -/
def mortonTellsUptoRow : OpenClaim := { program := "ytaefalmabphadaa", sum := "2175d727577f23941c9310b9e57f0420efee686208608cd3a90195338d54ec00", func := "vernier/vernierlaw16.MortonTells", spec := "mortonTells", apart := false, narrowed := true }
def MortonTellsUptoSaid : Prop := mortonTellsUptoRow.holds Try.pinned (OpenSpec.upto mortonTellsSpec)

/-- 'vernierlaw16.MortonBack', WHERE WHAT IT READS IS OF BULK AT MOST 1048576: true; the input reads as it did. -/
def mortonBackUptoRow : OpenClaim := { program := "ytaefalmabphadaa", sum := "2175d727577f23941c9310b9e57f0420efee686208608cd3a90195338d54ec00", func := "vernier/vernierlaw16.MortonBack", spec := "mortonBack", apart := false, narrowed := true }
def MortonBackUptoSaid : Prop := mortonBackUptoRow.holds Try.pinned (OpenSpec.upto mortonBackSpec)

/-- 'vernierlaw16.MortonApart', WHERE WHAT IT READS IS OF BULK AT MOST 1048576: true; the input reads as it did. -/
def mortonApartUptoRow : OpenClaim := { program := "ytaefalmabphadaa", sum := "2175d727577f23941c9310b9e57f0420efee686208608cd3a90195338d54ec00", func := "vernier/vernierlaw16.MortonApart", spec := "mortonApart", apart := false, narrowed := true }
def MortonApartUptoSaid : Prop := mortonApartUptoRow.holds Try.pinned (OpenSpec.upto mortonApartSpec)

/-- 'vernierlaw16.MortonFrom', WHERE WHAT IT READS IS OF BULK AT MOST 1048576: true; the input reads as it did. -/
def mortonFromUptoRow : OpenClaim := { program := "ytaefalmabphadaa", sum := "2175d727577f23941c9310b9e57f0420efee686208608cd3a90195338d54ec00", func := "vernier/vernierlaw16.MortonFrom", spec := "mortonFrom", apart := false, narrowed := true }
def MortonFromUptoSaid : Prop := mortonFromUptoRow.holds Try.pinned (OpenSpec.upto mortonFromSpec)

/-- 'vernierlaw17.PermTells', WHERE WHAT IT READS IS OF BULK AT MOST 1048576: true; the input reads as it did. -/
def permTellsUptoRow : OpenClaim := { program := "ytaefalmabphadaa", sum := "2175d727577f23941c9310b9e57f0420efee686208608cd3a90195338d54ec00", func := "vernier/vernierlaw17.PermTells", spec := "permTells", unfollowed := true, recurses := true, apart := false, narrowed := true }
def PermTellsUptoSaid : Prop := permTellsUptoRow.holds Try.pinned (OpenSpec.upto permTellsSpec)

/-- 'vernierlaw17.PermSwaps', WHERE WHAT IT READS IS OF BULK AT MOST 1048576: true; the input reads as it did. -/
def permSwapsUptoRow : OpenClaim := { program := "ytaefalmabphadaa", sum := "2175d727577f23941c9310b9e57f0420efee686208608cd3a90195338d54ec00", func := "vernier/vernierlaw17.PermSwaps", spec := "permSwaps", unfollowed := true, recurses := true, apart := false, narrowed := true }
def PermSwapsUptoSaid : Prop := permSwapsUptoRow.holds Try.pinned (OpenSpec.upto permSwapsSpec)

/-- 'vernierlaw17.PermRows', WHERE WHAT IT READS IS OF BULK AT MOST 1048576: true; the input reads as it did. -/
def permRowsUptoRow : OpenClaim := { program := "ytaefalmabphadaa", sum := "2175d727577f23941c9310b9e57f0420efee686208608cd3a90195338d54ec00", func := "vernier/vernierlaw17.PermRows", spec := "permRows", unfollowed := true, recurses := true, apart := false, narrowed := true }
def PermRowsUptoSaid : Prop := permRowsUptoRow.holds Try.pinned (OpenSpec.upto permRowsSpec)

end Rows
end Go.Proofs.Ytaefalmabphadaa
