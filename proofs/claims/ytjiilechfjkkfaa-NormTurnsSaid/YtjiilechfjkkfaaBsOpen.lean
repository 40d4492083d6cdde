/- A list of bools that comes in, opened. -/
import Derived.Test.YtjiilechfjkkfaaRowLift
import Derived.Test.YtjiilechfjkkfaaNoTurns
import Derived.Deep.Grids
import Derived.Deep.Strs
namespace Go.Proofs.Ytjiilechfjkkfaa
open Go.ChangeShapes Go.WideShapes Go.ChangeAt Go.RowKit Go.Shelf Go.Joins Go.Deep
set_option maxRecDepth 100000 in
theorem cells_bool : Try.prog.cellsOf 4 = 1 := by kernel_rfl
set_option maxRecDepth 100000 in
theorem readable_bools : Try.prog.readableRec 62 = true := by kernel_rfl
set_option maxRecDepth 100000 in
theorem typed_bools : 62 < Try.prog.types.size := of_decide_eq_true (by kernel_rfl)
section
variable {H : Type} {enc : TypeId × Value → H}
set_option maxRecDepth 100000 in
theorem open_bs {W : World} {base : Nat} {v : Value} {d : DataW H} {ps : List MemPlace} (hok : Value.okWide Try.prog W .any base 62 v) (h : DataW.Trod enc Try.prog W 0 (fun _ => true) true 62 v d ps) : ∃ n B, BsIn W v n B := by
  obtain ⟨a0, len, cap, rfl⟩ := okWide_slice Try.underlying62 hok
  obtain ⟨fuel, hf⟩ := h
  rcases open_bools Try.underlying62 Try.underlying4 cells_bool hf with ⟨hcs, _⟩ | ⟨a, len', cap', B, hcs, _, hl, hm, _, hx⟩
  · simp [Value.cells] at hcs
    obtain ⟨rfl, rfl, rfl⟩ := hcs
    exact ⟨0, fun _ => false, none, 0, rfl, fun h => absurd h (by simp)⟩
  · simp [Value.cells] at hcs
    obtain ⟨rfl, rfl, rfl⟩ := hcs
    refine ⟨len, B, some a, cap, rfl, fun h0 => ?_⟩
    obtain ⟨b, off, spot⟩ := a
    have h1 := hx 0 (by omega)
    have hspot : spot = none := by simpa [Addr.add] using World.cell?_spot h1
    subst hspot
    have hS : b < W.heap.size := by
      rw [add_plain] at h1
      obtain ⟨o, ho, _⟩ := cells_of_cell h1
      exact (Array.getElem?_eq_some_iff.1 ho).1
    refine ⟨b, off, rfl, hS, fun j hj => ?_⟩
    have h2 := hx j (by omega)
    rwa [add_plain] at h2
end
end Go.Proofs.Ytjiilechfjkkfaa
