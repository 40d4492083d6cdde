/- Arguments, opened: lists of ints, views, small words. -/
import Derived.Test.YtjapilpjahhimaaLift
import Derived.Test.YtjapilpjahhimaaOu
import Derived.Lib.SmallJoins
namespace Go.Proofs.Ytjapilpjahhimaa
open Go.ChangeShapes Go.WideShapes Go.ChangeAt Go.RowKit Go.Shelf Go.Joins Go.Deep
set_option maxRecDepth 100000 in
theorem cells_i64 : Try.prog.cellsOf 3 = 1 := by kernel_rfl
set_option maxRecDepth 100000 in
theorem bytes_i64 : Try.prog.bytesOf 3 = 8 := by kernel_rfl
section
variable {H : Type} {enc : TypeId × Value → H}
end
set_option maxRecDepth 100000 in
theorem one_view : ∃ f0 f1 f2 f3, Try.prog.underlying 38 = some (.struct #[f0, f1, f2, f3]) ∧ oneCellFields Try.prog #[f0, f1, f2, f3] = true ∧ f0.type = 3 ∧ f1.type = 3 ∧ f2.type = 3 ∧ f3.type = 3 := ⟨_, _, _, _, Try.underlying38, by kernel_rfl, rfl, rfl, rfl, rfl⟩
set_option maxRecDepth 100000 in
theorem cells_view : Try.prog.cellsOf 38 = 4 := by kernel_rfl
set_option maxRecDepth 100000 in
theorem readable_view : Try.prog.readableRec 38 = true := by kernel_rfl
set_option maxRecDepth 100000 in
theorem typed_view : 38 < Try.prog.types.size := of_decide_eq_true (by kernel_rfl)
section
variable {H : Type} {enc : TypeId × Value → H}
set_option maxRecDepth 100000 in
theorem open_view {W : World} {base : Nat} {v : Value} {d : DataW H} {ps : List MemPlace} (hok : Value.okWide Try.prog W .any base 38 v) (h : DataW.Trod enc Try.prog W 0 (fun _ => true) true 38 v d ps) :
    ∃ R C S O : Int, v = .agg #[.int .i64 R, .int .i64 C, .int .i64 S, .int .i64 O] ∧ (-9223372036854775808 ≤ R ∧ R < 9223372036854775808) ∧ (-9223372036854775808 ≤ C ∧ C < 9223372036854775808) ∧ (-9223372036854775808 ≤ S ∧ S < 9223372036854775808) ∧ (-9223372036854775808 ≤ O ∧ O < 9223372036854775808) := by
  obtain ⟨f0, f1, f2, f3, hu, ho, t0, t1, t2, t3⟩ := one_view
  obtain ⟨v0, v1, v2, v3, y0, y1, y2, y3, n, rfl, rfl, rfl, k0, k1, k2, k3⟩ := open_agg4 hu ho cells_view hok h
  rw [t0] at k0
  rw [t1] at k1
  rw [t2] at k2
  rw [t3] at k3
  obtain ⟨R, e0, _, g0⟩ := DataW.trod_int Try.underlying3 k0
  obtain ⟨C, e1, _, g1⟩ := DataW.trod_int Try.underlying3 k1
  obtain ⟨S, e2, _, g2⟩ := DataW.trod_int Try.underlying3 k2
  obtain ⟨O, e3, _, g3⟩ := DataW.trod_int Try.underlying3 k3
  simp only [List.cons.injEq, and_true] at e0 e1 e2 e3
  subst e0 e1 e2 e3
  exact ⟨R, C, S, O, rfl, i64_wf g0, i64_wf g1, i64_wf g2, i64_wf g3⟩
set_option maxRecDepth 100000 in
theorem readable_w8 : Try.prog.readableRec 5 = true := by kernel_rfl
set_option maxRecDepth 100000 in
theorem typed_w8 : 5 < Try.prog.types.size := of_decide_eq_true (by kernel_rfl)
set_option maxRecDepth 100000 in
theorem open_w8 {W : World} {base : Nat} {v : Value} {d : DataW H} {ps : List MemPlace} (hok : Value.okWide Try.prog W .any base 5 v) (h : DataW.Trod enc Try.prog W 0 (fun _ => true) true 5 v d ps) :
    ∃ a : Nat, v = .int .u8 (a : Int) ∧ d = .lit (.int .u8 (a : Int)) ∧ (a : Int) ≤ 255 := by
  obtain ⟨n, h1, h2, _, h3⟩ := open_int Try.underlying5 hok h
  have : 0 ≤ n ∧ n ≤ 255 := by simpa [Lit.wf, IntKind.min, IntKind.max, IntKind.signed, IntKind.bits] using h3
  obtain ⟨a, rfl⟩ : ∃ a : Nat, n = (a : Int) := ⟨n.toNat, by omega⟩
  exact ⟨a, h1, h2, by omega⟩
end
end Go.Proofs.Ytjapilpjahhimaa
