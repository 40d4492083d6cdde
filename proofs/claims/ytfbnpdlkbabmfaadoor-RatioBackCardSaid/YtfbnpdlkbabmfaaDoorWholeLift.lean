/- From a law's walk to its row, where whole numbers come in. -/
import Derived.Test.YtfbnpdlkbabmfaaDoorLift
import Derived.Test.YtfbnpdlkbabmfaaDoorWholeFive
import Derived.Lib.SmallJoins
namespace Go.Proofs.YtfbnpdlkbabmfaaDoor
open Go.ChangeShapes Go.WideShapes Go.ChangeAt Go.RowKit Go.Shelf Go.Joins Go.Deep

theorem one_whole : ∃ f0 f1, Tryd.prog.underlying 24 = some (.struct #[f0, f1]) ∧ oneCellFields Tryd.prog #[f0, f1] = true ∧ f0.type = 4 ∧ f1.type = 22 := ⟨_, _, Tryd.underlying24, by kernel_rfl, rfl, rfl⟩
theorem cells_whole : Tryd.prog.cellsOf 24 = 2 := by kernel_rfl
theorem readable_whole : Tryd.prog.readableRec 24 = true := by kernel_rfl
theorem typed_whole : 24 < Tryd.prog.types.size := of_decide_eq_true (by kernel_rfl)
section
variable {H : Type} {enc : TypeId × Value → H}
/-- a list in a cell -/
theorem open_cell {W : World} {a0 : Option Addr} {len cap fuel : Nat} {y : DataW H × List MemPlace} (h0 : 0 < W.heap.size) (hf : DataW.trod enc Tryd.prog W 0 (fun _ => true) true fuel 22 [.slice a0 len cap] = some y) :
    ∃ xs, Arg W (.slice a0 len cap) xs ∧ Low 18446744073709551616 xs ∧ (xs = [] ∨ ∃ elems spare, y.1 = .slice elems spare ∧ elems.length = xs.length) := by
  rcases open_ints Tryd.underlying22 Tryd.underlying47 cells_u64 hf with ⟨hcs, hx⟩ | ⟨a, len', cap', zs, hcs, _, hl, hm, hz, hx, hcell, hwz⟩
  · simp at hcs
    obtain ⟨rfl, rfl, rfl⟩ := hcs
    exact ⟨[], ⟨0, h0, .inl ⟨⟨_, _, rfl⟩, rfl⟩⟩, (by intro x hx; cases hx), .inl rfl⟩
  · simp at hcs
    obtain ⟨rfl, rfl, rfl⟩ := hcs
    subst hx
    simp only [if_true] at hz
    have hlen : ((zs.take len).map Int.toNat).length = len := by simp; omega
    have hlow : Low 18446744073709551616 ((zs.take len).map Int.toNat) := by
      intro x hx
      obtain ⟨z, hz', rfl⟩ := List.mem_map.1 hx
      have := u64_wf (hwz z (List.mem_of_mem_take hz'))
      omega
    have hd : (lits (H := H) .u64 (zs.take len)).length = ((zs.take len).map Int.toNat).length := by simp [lits]
    refine ⟨(zs.take len).map Int.toNat, ?_, hlow, .inr ⟨_, _, rfl, hd⟩⟩
    by_cases hz0 : 0 < zs.length
    · obtain ⟨b, off, rfl, hc⟩ := ints_at hcell hz0
      have hb : b < W.heap.size := by
        have h1 := hc 0 hz0
        obtain ⟨o, ho, _⟩ := cells_of_cell h1
        exact (Array.getElem?_eq_some_iff.1 ho).1
      refine ⟨b, hb, .inr ⟨off, cap, by rw [hlen], by rw [hlen]; exact hl, fun j hj => ?_⟩⟩
      rw [hlen] at hj
      have hj' : j < zs.length := by omega
      rw [hc j hj']
      have hzj := u64_wf (hwz _ (List.getElem_mem hj'))
      have e1 : zs.getD j 0 = zs[j] := by simp [List.getD, hj']
      have e2 : (lim ((zs.take len).map Int.toNat) j : Int) = zs[j] := by
        unfold lim
        simp [hj, hj']
        omega
      rw [e1, e2]
    · have hz1 : zs = [] := List.eq_nil_of_length_eq_zero (by omega)
      subst hz1
      have : len = 0 := by simp at hz; omega
      subst this
      exact ⟨0, h0, .inl ⟨⟨_, _, rfl⟩, by simp⟩⟩
/-- a whole number that comes in -/
theorem open_whole {W : World} {base : Nat} {v : Value} {d : DataW H} {ps : List MemPlace} (h0 : 0 < W.heap.size) (hok : Value.okWide Tryd.prog W .any base 24 v) (h : DataW.Trod enc Tryd.prog W 0 (fun _ => true) true 24 v d ps) :
    ∃ s a m cap xs, v = .agg #[.bool s, .slice a m cap] ∧ Arg W (.slice a m cap) xs ∧ Low 18446744073709551616 xs ∧ (xs = [] ∨ ∃ elems spare, d = .agg [.lit (.bool s), .slice elems spare] ∧ elems.length = xs.length) := by
  obtain ⟨f0, f1, hu, ho, t0, t1⟩ := one_whole
  obtain ⟨v0, v1, y0, y1, n, rfl, rfl, rfl, k0, k1⟩ := open_agg2 hu ho cells_whole hok h
  rw [t0] at k0
  rw [t1] at k1
  obtain ⟨s, e0, rfl⟩ := DataW.trod_bool Tryd.underlying4 k0
  obtain ⟨a, m, cap, e1⟩ := slice_form Tryd.underlying22 k1
  simp only [List.cons.injEq, and_true] at e0 e1
  subst e0 e1
  obtain ⟨xs, h1, h2, h3⟩ := open_cell h0 k1
  refine ⟨s, a, m, cap, xs, rfl, h1, h2, h3.imp id fun ⟨el, sp, e, hl⟩ => ⟨el, sp, ?_, hl⟩⟩
  rw [e]
theorem sized_whole {ts : List TypeId} {ds : List (DataW H)} (h : (DataW.weightsEach Tryd.prog ts ds).all (· ≤ reachBytes) = true) {j : Nat} {x : DataW H} {elems spare : List (DataW H)} (ht : ts[j]? = some 24) (hd : ds[j]? = some (.agg [x, .slice elems spare])) :
    (elems.length + spare.length) * 8 ≤ reachBytes := by
  obtain ⟨f0, f1, hu, ho, t0, t1⟩ := one_whole
  have := List.all_eq_true.1 h _ (DataW.weights_mem_each ht hd ((elems.length + spare.length) * Tryd.prog.bytesOf 47) (by simp [DataW.weights, DataW.weightsEach, hu, t1, Tryd.underlying22]))
  rw [bytes_u64] at this
  simpa using this
end
end Go.Proofs.YtfbnpdlkbabmfaaDoor
