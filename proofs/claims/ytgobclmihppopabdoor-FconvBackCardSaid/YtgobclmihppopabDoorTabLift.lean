/- The table of math/bits in its variable. -/
import Derived.Test.YtgobclmihppopabDoorZeros
import Derived.Test.YtgobclmihppopabDoorLift
import Derived.Test.YtgobclmihppopabDoorCards
import Derived.Test.YtgobclmihppopabDoorTie
import Derived.LaidLaws
import Derived.ChangeArms
import Derived.SevenTiedAt
namespace Go.Proofs.YtgobclmihppopabDoor
open Go.ChangeShapes Go.WideShapes Go.ChangeAt Go.RowKit Go.Shelf

/-- the settled world, with the table in its variable -/
noncomputable def laidWorld (os : Os) : World :=
  { World.holding Tryd.prog os ⟨#[], #[], []⟩ with heap := (World.holding Tryd.prog os ⟨#[], #[], []⟩).heap.modify 0 fun
      | .cells _ t frozen => .cells (Lib.deBruijn64tab.map fun (x : Nat) => Value.int .u8 (x : Int)).toArray t frozen
      | o => o }
theorem datum : (Rows.laid_math_bits_deBruijn64tab : DataW Unit) = .agg (Lib.deBruijn64tab.map fun (x : Nat) => .lit (.int .u8 (x : Int))) := by kernel_rfl
/-- what the condition gives the walk: the table lies in its variable -/
theorem tab_of_laid {W : World} (h' : laidMet Tryd.prog [("math/bits.deBruijn64tab", Rows.laid_math_bits_deBruijn64tab)] W) : TabOk W := by
  obtain ⟨ps, ⟨g, t, cs, fuel, p, q, hg, ht, hvar, hd, _, _⟩, _⟩ := h'
  obtain rfl := Option.some.inj ((show Tryd.prog.globalNamed "math/bits.deBruijn64tab" = some 0 by kernel_rfl).symm.trans hg)
  obtain rfl := Option.some.inj ((show (Tryd.prog.globals[(0 : Nat)]?).map (·.type) = some 79 by kernel_rfl).symm.trans ht)
  have hT : Tryd.prog.underlying 79 = some (.array 64 5) := by kernel_rfl
  have hE : Tryd.prog.underlying 5 = some (.int .u8) := by kernel_rfl
  have hC : Tryd.prog.cellsOf 5 = 1 := by kernel_rfl
  rw [datum] at hd
  obtain ⟨xs, m, rfl, hx, hlen, hn, hel⟩ := DataW.trod_array hT hd
  have hx1 : xs.map (·.1) = Lib.deBruijn64tab.map fun (x : Nat) => (DataW.lit (.int .u8 (x : Int)) : DataW Unit) := by
    have := congrArg Prod.fst hx
    simpa using this.symm
  intro j hj
  have hj64 : j < 64 := hj
  have h1 := hel j hj64
  rw [hC, Nat.mul_one, List.getElem?_eq_getElem (show j < xs.length by omega)] at h1
  obtain ⟨n, e1, e2, _⟩ := DataW.trod_int hE h1
  have h2 := congrArg (fun l => l[j]?) hx1
  simp only [List.getElem?_map, List.getElem?_eq_getElem (show j < xs.length by omega), List.getElem?_eq_getElem hj, Option.map_some, e2, Option.some.injEq, DataW.lit.injEq, Lit.int.injEq, true_and] at h2
  have h3 : cs[j]? = some (.int .u8 n) := by
    have := congrArg (fun l => l[0]?) e1
    simpa [List.getElem?_take, List.getElem?_drop] using this
  rw [World.var?_cell hg hvar j, h3, h2, List.getD_eq_getElem?_getD, List.getElem?_eq_getElem hj]
  rfl
end Go.Proofs.YtgobclmihppopabDoor
