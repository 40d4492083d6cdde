/- From a law's walk to its row, where fractions come in. -/
import Derived.Test.YtfbnpdlkbabmfaaDoorDyLift
namespace Go.Proofs.YtfbnpdlkbabmfaaDoor
open Go.ChangeShapes Go.WideShapes Go.ChangeAt Go.RowKit Go.Shelf Go.Joins Go.Deep

theorem two_ratio : ∃ f0 f1, Tryd.prog.underlying 26 = some (.struct #[f0, f1]) ∧ f0.offset = 0 ∧ f1.offset = 2 ∧ f0.type = 24 ∧ f1.type = 22 := ⟨_, _, Tryd.underlying26, rfl, rfl, rfl, rfl⟩
theorem cells_ratio : Tryd.prog.cellsOf 26 = 3 := by kernel_rfl
theorem cells_list : Tryd.prog.cellsOf 22 = 1 := by kernel_rfl
theorem readable_ratio : Tryd.prog.readableRec 26 = true := by kernel_rfl
theorem typed_ratio : 26 < Tryd.prog.types.size := of_decide_eq_true (by kernel_rfl)
section
variable {H : Type} {enc : TypeId × Value → H}
/-- a fraction that comes in -/
theorem open_ratio {W : World} {base : Nat} {v : Value} {d : DataW H} {ps : List MemPlace} (h0 : 0 < W.heap.size) (hok : Value.okWide Tryd.prog W .any base 26 v) (h : DataW.Trod enc Tryd.prog W 0 (fun _ => true) true 26 v d ps) :
    ∃ s a m c xs b n k ys, v = .agg #[.bool s, .slice a m c, .slice b n k] ∧ Arg W (.slice a m c) xs ∧ Low 18446744073709551616 xs ∧ Arg W (.slice b n k) ys ∧ Low 18446744073709551616 ys := by
  obtain ⟨f0, f1, hu, o0, o1, t0, t1⟩ := two_ratio
  obtain ⟨g0, g1, hw, hone, u0, u1⟩ := one_whole
  obtain ⟨cs, rfl, hsz⟩ := okWide_struct hu hok
  obtain ⟨v0, v1, v2, rfl⟩ := array3 (hsz.trans cells_ratio)
  obtain ⟨fuel, hf⟩ := h
  obtain ⟨y0, y1, n, hx, _, h1, h2⟩ := trod_struct2 hu hf
  rw [o0, t0, cells_whole] at h1
  rw [o1, t1, cells_list] at h2
  have h1 : DataW.trod enc Tryd.prog W 0 (fun _ => true) true n 24 [v0, v1] = some y0 := by simpa [Value.cells] using h1
  have h2 : DataW.trod enc Tryd.prog W 0 (fun _ => true) true n 22 [v2] = some y1 := by simpa [Value.cells] using h2
  obtain ⟨z0, z1, n', hx', _, k0, k1⟩ := trod_struct2 hw h1
  obtain ⟨p0, q0⟩ := hone_of hone 0 g0 rfl
  obtain ⟨p1, q1⟩ := hone_of hone 1 g1 rfl
  rw [u0] at k0 q0
  rw [u1] at k1 q1
  rw [p0, q0] at k0
  rw [p1, q1] at k1
  have k0 : DataW.trod enc Tryd.prog W 0 (fun _ => true) true n' 4 [v0] = some z0 := by simpa using k0
  have k1 : DataW.trod enc Tryd.prog W 0 (fun _ => true) true n' 22 [v1] = some z1 := by simpa using k1
  obtain ⟨s, e0, _⟩ := DataW.trod_bool Tryd.underlying4 k0
  obtain ⟨a, m, c, e1⟩ := slice_form Tryd.underlying22 k1
  obtain ⟨b, l, k, e2⟩ := slice_form Tryd.underlying22 h2
  simp only [List.cons.injEq, and_true] at e0 e1 e2
  subst e0 e1 e2
  obtain ⟨xs, j1, j2, _⟩ := open_cell h0 k1
  obtain ⟨ys, l1, l2, _⟩ := open_cell h0 h2
  exact ⟨s, a, m, c, xs, b, l, k, ys, rfl, j1, j2, l1, l2⟩
end
end Go.Proofs.YtfbnpdlkbabmfaaDoor
