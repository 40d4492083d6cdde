/- A list of calls that comes in, opened. -/
import Derived.Test.YtgppbimbampenaaRowLift
import Derived.Deep.Strs
namespace Go.Proofs.Ytgppbimbampenaa
open Go.ChangeShapes Go.WideShapes Go.ChangeAt Go.RowKit Go.Shelf Go.Joins Go.Deep
/-- the t-th call's three numbers -/
def opAt (os : List (Int × Int × Int)) (t : Nat) : Int × Int × Int := os.getD t (0, 0, 0)
/-- a list of calls that comes in -/
def OpsIn (w : World) (v : Value) (os : List (Int × Int × Int)) : Prop :=
  ∃ a cap, v = .slice a os.length cap ∧ (0 < os.length → ∃ S off, a = some ⟨S, off, none⟩ ∧ S < w.heap.size ∧ ∀ j, j < os.length →
    w.cell? ⟨S, off + j * 3, none⟩ = some (.int .i64 (opAt os j).1) ∧ w.cell? ⟨S, off + j * 3 + 1, none⟩ = some (.int .i64 (opAt os j).2.1) ∧ w.cell? ⟨S, off + j * 3 + 2, none⟩ = some (.int .i64 (opAt os j).2.2))
set_option maxRecDepth 100000 in
theorem one_op : ∃ f0 f1 f2, Try.prog.underlying 53 = some (.struct #[f0, f1, f2]) ∧ oneCellFields Try.prog #[f0, f1, f2] = true ∧ f0.type = 3 ∧ f1.type = 3 ∧ f2.type = 3 := ⟨_, _, _, Try.underlying53, by kernel_rfl, rfl, rfl, rfl⟩
set_option maxRecDepth 100000 in
theorem cells_op : Try.prog.cellsOf 53 = 3 := by kernel_rfl
set_option maxRecDepth 100000 in
theorem readable_ops : Try.prog.readableRec 49 = true := by kernel_rfl
set_option maxRecDepth 100000 in
theorem typed_ops : 49 < Try.prog.types.size := of_decide_eq_true (by kernel_rfl)
section
variable {H : Type} {enc : TypeId × Value → H}
set_option maxRecDepth 100000 in
theorem open_ops {W : World} {base : Nat} {v : Value} {d : DataW H} {ps : List MemPlace} (hok : Value.okWide Try.prog W .any base 49 v) (h : DataW.Trod enc Try.prog W 0 (fun _ => true) true 49 v d ps) : ∃ os, OpsIn W v os := by
  obtain ⟨f0, f1, f2, hu, ho, t0, t1, t2⟩ := one_op
  obtain ⟨o0, k0⟩ := hone_of ho 0 f0 rfl
  obtain ⟨o1, k1⟩ := hone_of ho 1 f1 rfl
  obtain ⟨o2, k2⟩ := hone_of ho 2 f2 rfl
  obtain ⟨a0, len, cap, rfl⟩ := okWide_slice Try.underlying49 hok
  obtain ⟨fuel, hf⟩ := h
  rcases open_slice Try.underlying49 hf with ⟨hcs, _⟩ | ⟨a, len', cap', m, n, D, Pl, hcs, _, hl, hm, hmm, _, hx⟩
  · simp [Value.cells] at hcs
    obtain ⟨rfl, rfl, rfl⟩ := hcs
    exact ⟨[], none, 0, rfl, fun h => absurd h (by simp)⟩
  · simp [Value.cells] at hcs
    obtain ⟨rfl, rfl, rfl⟩ := hcs
    simp only [if_true] at hmm
    have each : ∀ i, i < len → ∃ q : Int × Int × Int, W.cell? (a.add (i * 3)) = some (.int .i64 q.1) ∧ W.cell? (a.add (i * 3 + 1)) = some (.int .i64 q.2.1) ∧ W.cell? (a.add (i * 3 + 2)) = some (.int .i64 q.2.2) := by
      intro i hi
      obtain ⟨cs', h1, h2⟩ := hx i (by omega)
      rw [cells_op] at h1
      obtain ⟨_, hlen, hcell⟩ := World.cells?_some h1
      obtain ⟨y0, y1, y2, n', _, _, g0, g1, g2⟩ := trod_struct3 hu h2
      match cs', hlen with
      | [v0, v1, v2], _ =>
        simp [o0, o1, o2, k0, k1, k2] at g0 g1 g2
        rw [t0] at g0
        rw [t1] at g1
        rw [t2] at g2
        obtain ⟨z0, e0, _, _⟩ := DataW.trod_int Try.underlying3 g0
        obtain ⟨z1, e1, _, _⟩ := DataW.trod_int Try.underlying3 g1
        obtain ⟨z2, e2, _, _⟩ := DataW.trod_int Try.underlying3 g2
        simp only [List.cons.injEq, and_true] at e0 e1 e2
        subst e0 e1 e2
        have c0 := hcell 0 (by omega)
        have c1 := hcell 1 (by omega)
        have c2 := hcell 2 (by omega)
        rw [add_add] at c0 c1 c2
        exact ⟨(z0, z1, z2), by simpa using c0, by simpa using c1, by simpa using c2⟩
    obtain ⟨q, hq⟩ := choose_lt each
    have hat : ∀ j, j < len → opAt ((List.range len).map q) j = q j := fun j hj => by
      unfold opAt
      simp [List.getD, hj]
    refine ⟨(List.range len).map q, some a, cap, by simp, fun h0 => ?_⟩
    have hl0 : 0 < len := by simpa using h0
    obtain ⟨b, off, spot⟩ := a
    have hspot : spot = none := by simpa [Addr.add] using World.cell?_spot (hq 0 hl0).1
    subst hspot
    have hS : b < W.heap.size := by
      have h1 := (hq 0 hl0).1
      rw [add_plain] at h1
      obtain ⟨o, ho, _⟩ := cells_of_cell h1
      exact (Array.getElem?_eq_some_iff.1 ho).1
    refine ⟨b, off, rfl, hS, fun j hj => ?_⟩
    have hj' : j < len := by simpa using hj
    obtain ⟨c0, c1, c2⟩ := hq j hj'
    rw [add_plain] at c0 c1 c2
    rw [hat j hj']
    exact ⟨c0, by simpa [Nat.add_assoc] using c1, by simpa [Nat.add_assoc] using c2⟩
end
end Go.Proofs.Ytgppbimbampenaa
