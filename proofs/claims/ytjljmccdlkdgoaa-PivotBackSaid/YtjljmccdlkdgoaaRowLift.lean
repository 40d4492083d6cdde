/- Arguments, opened: lists of ints, views, small words. -/
import Derived.Test.YtjljmccdlkdgoaaLift
import Derived.Test.YtjljmccdlkdgoaaOu
import Derived.Lib.SmallJoins
namespace Go.Proofs.Ytjljmccdlkdgoaa
open Go.ChangeShapes Go.WideShapes Go.ChangeAt Go.RowKit Go.Shelf Go.Joins Go.Deep
set_option maxRecDepth 100000 in
theorem cells_i64 : Try.prog.cellsOf 3 = 1 := by kernel_rfl
set_option maxRecDepth 100000 in
theorem bytes_i64 : Try.prog.bytesOf 3 = 8 := by kernel_rfl
set_option maxRecDepth 100000 in
theorem readable_ints : Try.prog.readableRec 36 = true := by kernel_rfl
set_option maxRecDepth 100000 in
theorem typed_ints : 36 < Try.prog.types.size := of_decide_eq_true (by kernel_rfl)
section
variable {H : Type} {enc : TypeId × Value → H}
set_option maxRecDepth 100000 in
/-- a list of ints that comes in -/
theorem open_zs {W : World} {base : Nat} {v : Value} {d : DataW H} {ps : List MemPlace} (h0 : 0 < W.heap.size) (hok : Value.okWide Try.prog W .any base 36 v) (h : DataW.Trod enc Try.prog W 0 (fun _ => true) true 36 v d ps) :
    ∃ xs : List Int, ArgK .i64 W v xs ∧ (∀ z ∈ xs, -9223372036854775808 ≤ z ∧ z < 9223372036854775808) ∧ (xs = [] ∨ ∃ elems spare, d = .slice elems spare ∧ elems.length = xs.length) := by
  obtain ⟨a0, len, cap, rfl⟩ := okWide_slice Try.underlying36 hok
  obtain ⟨fuel, hf⟩ := h
  rcases open_ints Try.underlying36 Try.underlying3 cells_i64 hf with ⟨hcs, hx⟩ | ⟨a, len', cap', zs, hcs, _, hl, hm, hz, hx, hcell, hwz⟩
  · simp [Value.cells] at hcs
    obtain ⟨rfl, rfl, rfl⟩ := hcs
    exact ⟨[], ⟨0, h0, .inl ⟨⟨_, _, rfl⟩, rfl⟩⟩, (by intro x hx; cases hx), .inl rfl⟩
  · simp [Value.cells] at hcs
    obtain ⟨rfl, rfl, rfl⟩ := hcs
    simp only [Prod.mk.injEq] at hx
    obtain ⟨rfl, rfl⟩ := hx
    simp only [if_true] at hz
    have hlen : (zs.take len).length = len := by simp; omega
    have hlow : ∀ z ∈ zs.take len, -9223372036854775808 ≤ z ∧ z < 9223372036854775808 := fun z hz => i64_wf (hwz z (List.mem_of_mem_take hz))
    have hd : (lits (H := H) .i64 (zs.take len)).length = (zs.take len).length := by simp [lits]
    refine ⟨zs.take len, ?_, hlow, .inr ⟨_, _, rfl, hd⟩⟩
    by_cases hz0 : 0 < zs.length
    · obtain ⟨b, off, rfl, hc⟩ := ints_at hcell hz0
      have hb : b < W.heap.size := by
        have h1 := hc 0 hz0
        obtain ⟨o, ho, _⟩ := cells_of_cell h1
        exact (Array.getElem?_eq_some_iff.1 ho).1
      refine ⟨b, hb, .inr ⟨off, cap, by rw [hlen], by rw [hlen]; exact hl, fun j hj => ?_⟩⟩
      rw [hlen] at hj
      have hj' : j < zs.length := by omega
      rw [hc j hj']
      have e1 : zs.getD j 0 = zs[j] := by simp [List.getD, hj']
      have e2 : zat (zs.take len) j = zs[j] := by
        unfold zat
        simp [hj, hj']
      rw [e1, e2]
    · have hz1 : zs = [] := List.eq_nil_of_length_eq_zero (by omega)
      subst hz1
      have : len = 0 := by simp at hz; omega
      subst this
      exact ⟨0, h0, .inl ⟨⟨_, _, rfl⟩, by simp⟩⟩
end
section
variable {H : Type} {enc : TypeId × Value → H}
set_option maxRecDepth 100000 in
theorem readable_w8 : Try.prog.readableRec 5 = true := by kernel_rfl
set_option maxRecDepth 100000 in
theorem typed_w8 : 5 < Try.prog.types.size := of_decide_eq_true (by kernel_rfl)
set_option maxRecDepth 100000 in
theorem open_w8 {W : World} {base : Nat} {v : Value} {d : DataW H} {ps : List MemPlace} (hok : Value.okWide Try.prog W .any base 5 v) (h : DataW.Trod enc Try.prog W 0 (fun _ => true) true 5 v d ps) :
    ∃ a : Nat, v = .int .u8 (a : Int) ∧ d = .lit (.int .u8 (a : Int)) ∧ (a : Int) ≤ 255 := by
  obtain ⟨n, h1, h2, _, h3⟩ := open_int Try.underlying5 hok h
  have : 0 ≤ n ∧ n ≤ 255 := by simpa [Lit.wf, IntKind.min, IntKind.max, IntKind.signed, IntKind.bits] using h3
  obtain ⟨a, rfl⟩ : ∃ a : Nat, n = (a : Int) := ⟨n.toNat, by omega⟩
  exact ⟨a, h1, h2, by omega⟩
end
end Go.Proofs.Ytjljmccdlkdgoaa
