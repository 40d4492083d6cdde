/- From a law's walk to its row, where a dyadic number comes in; no table. -/
import Derived.Test.YtgobclmihppopabScal
import Derived.ChangeArms
import Derived.Lib.SmallJoins
namespace Go.Proofs.Ytgobclmihppopab
open Go.ChangeShapes Go.WideShapes Go.ChangeAt Go.RowKit Go.Shelf Go.Joins Go.Deep

section
variable {H : Type} {enc : TypeId × Value → H}
/-- a list in a cell -/
theorem vopen_cell {W : World} {a0 : Option Addr} {len cap fuel : Nat} {y : DataW H × List MemPlace} (h0 : 0 < W.heap.size) (hf : DataW.trod enc Try.prog W 0 (fun _ => true) true fuel 34 [.slice a0 len cap] = some y) :
    ∃ xs, Arg W (.slice a0 len cap) xs ∧ Low 18446744073709551616 xs ∧ (xs = [] ∨ ∃ elems spare, y.1 = .slice elems spare ∧ elems.length = xs.length) := by
  rcases open_ints Try.underlying34 Try.underlying22 cells_u64 hf with ⟨hcs, hx⟩ | ⟨a, len', cap', zs, hcs, _, hl, hm, hz, hx, hcell, hwz⟩
  · simp at hcs
    obtain ⟨rfl, rfl, rfl⟩ := hcs
    exact ⟨[], ⟨0, h0, .inl ⟨⟨_, _, rfl⟩, rfl⟩⟩, (by intro x hx; cases hx), .inl rfl⟩
  · simp at hcs
    obtain ⟨rfl, rfl, rfl⟩ := hcs
    subst hx
    simp only [if_true] at hz
    have hlen : ((zs.take len).map Int.toNat).length = len := by simp; omega
    have hlow : Low 18446744073709551616 ((zs.take len).map Int.toNat) := by
      intro x hx
      obtain ⟨z, hz', rfl⟩ := List.mem_map.1 hx
      have := u64_wf (hwz z (List.mem_of_mem_take hz'))
      omega
    have hd : (lits (H := H) .u64 (zs.take len)).length = ((zs.take len).map Int.toNat).length := by simp [lits]
    refine ⟨(zs.take len).map Int.toNat, ?_, hlow, .inr ⟨_, _, rfl, hd⟩⟩
    by_cases hz0 : 0 < zs.length
    · obtain ⟨b, off, rfl, hc⟩ := ints_at hcell hz0
      have hb : b < W.heap.size := by
        have h1 := hc 0 hz0
        obtain ⟨o, ho, _⟩ := cells_of_cell h1
        exact (Array.getElem?_eq_some_iff.1 ho).1
      refine ⟨b, hb, .inr ⟨off, cap, by rw [hlen], by rw [hlen]; exact hl, fun j hj => ?_⟩⟩
      rw [hlen] at hj
      have hj' : j < zs.length := by omega
      rw [hc j hj']
      have hzj := u64_wf (hwz _ (List.getElem_mem hj'))
      have e1 : zs.getD j 0 = zs[j] := by simp [List.getD, hj']
      have e2 : (lim ((zs.take len).map Int.toNat) j : Int) = zs[j] := by
        unfold lim
        simp [hj, hj']
        omega
      rw [e1, e2]
    · have hz1 : zs = [] := List.eq_nil_of_length_eq_zero (by omega)
      subst hz1
      have : len = 0 := by simp at hz; omega
      subst this
      exact ⟨0, h0, .inl ⟨⟨_, _, rfl⟩, by simp⟩⟩
end
theorem vone_dyadic : ∃ f0 f1 f2, Try.prog.underlying 48 = some (.struct #[f0, f1, f2]) ∧ oneCellFields Try.prog #[f0, f1, f2] = true ∧ f0.type = 4 ∧ f1.type = 34 ∧ f2.type = 3 := ⟨_, _, _, Try.underlying48, by kernel_rfl, rfl, rfl, rfl⟩
theorem vcells_dyadic : Try.prog.cellsOf 48 = 3 := by kernel_rfl
theorem vreadable_dyadic : Try.prog.readableRec 48 = true := by kernel_rfl
theorem vtyped_dyadic : 48 < Try.prog.types.size := of_decide_eq_true (by kernel_rfl)
section
variable {H : Type} {enc : TypeId × Value → H}
set_option maxRecDepth 100000 in
/-- a dyadic number that comes in -/
theorem vopen_dyadic {W : World} {base : Nat} {v : Value} {d : DataW H} {ps : List MemPlace} (h0 : 0 < W.heap.size) (hok : Value.okWide Try.prog W .any base 48 v) (h : DataW.Trod enc Try.prog W 0 (fun _ => true) true 48 v d ps) :
    ∃ s a m cap E xs, v = .agg #[.bool s, .slice a m cap, .int .i64 E] ∧ Arg W (.slice a m cap) xs ∧ Low 18446744073709551616 xs ∧ (-9223372036854775808 ≤ E ∧ E < 9223372036854775808) ∧ (xs = [] ∨ ∃ elems spare, d = .agg [.lit (.bool s), .slice elems spare, .lit (.int .i64 E)] ∧ elems.length = xs.length) := by
  obtain ⟨f0, f1, f2, hu, ho, t0, t1, t2⟩ := vone_dyadic
  obtain ⟨v0, v1, v2, y0, y1, y2, n, rfl, rfl, rfl, k0, k1, k2⟩ := open_agg3 hu ho vcells_dyadic hok h
  rw [t0] at k0
  rw [t1] at k1
  rw [t2] at k2
  obtain ⟨s, e0, rfl⟩ := DataW.trod_bool Try.underlying4 k0
  obtain ⟨a, m, cap, e1⟩ := slice_form Try.underlying34 k1
  obtain ⟨E, e2, e3, e4⟩ := DataW.trod_int Try.underlying3 k2
  simp only [List.cons.injEq, and_true] at e0 e1 e2
  subst e0 e1 e2
  obtain ⟨xs, h1, h2, h3⟩ := vopen_cell h0 k1
  refine ⟨s, a, m, cap, E, xs, rfl, h1, h2, ?_, h3.imp id fun ⟨el, sp, e, hl⟩ => ⟨el, sp, ?_, hl⟩⟩
  · exact i64_wf e4
  · rw [e, e3]
end
end Go.Proofs.Ytgobclmihppopab
