/- From a law's walk to its row, where dyadic numbers come in, and the table in its variable. -/
import Derived.Test.YtfbnpdlkbabmfaaDoorWholeLift
import Derived.Test.YtfbnpdlkbabmfaaDoorDyBox
import Derived.Test.YtfbnpdlkbabmfaaDoorCards
import Derived.Test.YtfbnpdlkbabmfaaDoorTie
import Derived.LaidLaws
import Derived.ChangeArms
import Derived.SevenTiedAt
namespace Go.Proofs.YtfbnpdlkbabmfaaDoor
open Go.ChangeShapes Go.WideShapes Go.ChangeAt Go.RowKit Go.Shelf Go.Joins Go.Deep

theorem one_dyadic : ∃ f0 f1 f2, Tryd.prog.underlying 44 = some (.struct #[f0, f1, f2]) ∧ oneCellFields Tryd.prog #[f0, f1, f2] = true ∧ f0.type = 4 ∧ f1.type = 22 ∧ f2.type = 3 := ⟨_, _, _, Tryd.underlying44, by kernel_rfl, rfl, rfl, rfl⟩
theorem cells_dyadic : Tryd.prog.cellsOf 44 = 3 := by kernel_rfl
theorem readable_dyadic : Tryd.prog.readableRec 44 = true := by kernel_rfl
theorem typed_dyadic : 44 < Tryd.prog.types.size := of_decide_eq_true (by kernel_rfl)
section
variable {H : Type} {enc : TypeId × Value → H}
/-- a dyadic number that comes in -/
theorem open_dyadic {W : World} {base : Nat} {v : Value} {d : DataW H} {ps : List MemPlace} (h0 : 0 < W.heap.size) (hok : Value.okWide Tryd.prog W .any base 44 v) (h : DataW.Trod enc Tryd.prog W 0 (fun _ => true) true 44 v d ps) :
    ∃ s a m cap E xs, v = .agg #[.bool s, .slice a m cap, .int .i64 E] ∧ Arg W (.slice a m cap) xs ∧ Low 18446744073709551616 xs ∧ (-9223372036854775808 ≤ E ∧ E < 9223372036854775808) ∧ (xs = [] ∨ ∃ elems spare, d = .agg [.lit (.bool s), .slice elems spare, .lit (.int .i64 E)] ∧ elems.length = xs.length) := by
  obtain ⟨f0, f1, f2, hu, ho, t0, t1, t2⟩ := one_dyadic
  obtain ⟨v0, v1, v2, y0, y1, y2, n, rfl, rfl, rfl, k0, k1, k2⟩ := open_agg3 hu ho cells_dyadic hok h
  rw [t0] at k0
  rw [t1] at k1
  rw [t2] at k2
  obtain ⟨s, e0, rfl⟩ := DataW.trod_bool Tryd.underlying4 k0
  obtain ⟨a, m, cap, e1⟩ := slice_form Tryd.underlying22 k1
  obtain ⟨E, e2, e3, e4⟩ := DataW.trod_int Tryd.underlying3 k2
  simp only [List.cons.injEq, and_true] at e0 e1 e2
  subst e0 e1 e2
  obtain ⟨xs, h1, h2, h3⟩ := open_cell h0 k1
  refine ⟨s, a, m, cap, E, xs, rfl, h1, h2, ?_, h3.imp id fun ⟨el, sp, e, hl⟩ => ⟨el, sp, ?_, hl⟩⟩
  · exact i64_wf e4
  · rw [e, e3]
end
/-- the settled world, with the table in its variable -/
noncomputable def laidWorld (os : Os) : World :=
  { World.holding Tryd.prog os ⟨#[], #[], []⟩ with heap := (World.holding Tryd.prog os ⟨#[], #[], []⟩).heap.modify 0 fun
      | .cells _ t frozen => .cells (Lib.deBruijn64tab.map fun (x : Nat) => Value.int .u8 (x : Int)).toArray t frozen
      | o => o }
theorem datum : (Rows.laid_math_bits_deBruijn64tab : DataW Unit) = .agg (Lib.deBruijn64tab.map fun (x : Nat) => .lit (.int .u8 (x : Int))) := by kernel_rfl
/-- what the condition gives the walk: the table lies in its variable -/
theorem tab_of_laid {W : World} (h' : laidMet Tryd.prog [("math/bits.deBruijn64tab", Rows.laid_math_bits_deBruijn64tab)] W) : TabOk W := by
  obtain ⟨ps, ⟨g, t, cs, fuel, p, q, hg, ht, hvar, hd, _, _⟩, _⟩ := h'
  obtain rfl := Option.some.inj ((show Tryd.prog.globalNamed "math/bits.deBruijn64tab" = some 0 by kernel_rfl).symm.trans hg)
  obtain rfl := Option.some.inj ((show (Tryd.prog.globals[(0 : Nat)]?).map (·.type) = some 88 by kernel_rfl).symm.trans ht)
  have hT : Tryd.prog.underlying 88 = some (.array 64 5) := by kernel_rfl
  have hE : Tryd.prog.underlying 5 = some (.int .u8) := by kernel_rfl
  have hC : Tryd.prog.cellsOf 5 = 1 := by kernel_rfl
  rw [datum] at hd
  obtain ⟨xs, m, rfl, hx, hlen, hn, hel⟩ := DataW.trod_array hT hd
  have hx1 : xs.map (·.1) = Lib.deBruijn64tab.map fun (x : Nat) => (DataW.lit (.int .u8 (x : Int)) : DataW Unit) := by
    have := congrArg Prod.fst hx
    simpa using this.symm
  intro j hj
  have hj64 : j < 64 := hj
  have h1 := hel j hj64
  rw [hC, Nat.mul_one, List.getElem?_eq_getElem (show j < xs.length by omega)] at h1
  obtain ⟨n, e1, e2, _⟩ := DataW.trod_int hE h1
  have h2 := congrArg (fun l => l[j]?) hx1
  simp only [List.getElem?_map, List.getElem?_eq_getElem (show j < xs.length by omega), List.getElem?_eq_getElem hj, Option.map_some, e2, Option.some.injEq, DataW.lit.injEq, Lit.int.injEq, true_and] at h2
  have h3 : cs[j]? = some (.int .u8 n) := by
    have := congrArg (fun l => l[0]?) e1
    simpa [List.getElem?_take, List.getElem?_drop] using this
  rw [World.var?_cell hg hvar j, h3, h2, List.getD_eq_getElem?_getD, List.getElem?_eq_getElem hj]
  rfl
end Go.Proofs.YtfbnpdlkbabmfaaDoor
