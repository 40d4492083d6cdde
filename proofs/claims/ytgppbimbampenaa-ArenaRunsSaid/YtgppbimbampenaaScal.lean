/- From a law's walk to its row: words, ints, bools. -/
import Derived.Test.YtgppbimbampenaaLift
import Derived.LaidLaws
namespace Go.Proofs.Ytgppbimbampenaa
open Go.ChangeShapes Go.WideShapes Go.ChangeAt Go.RowKit Go.Shelf
set_option maxRecDepth 100000 in
theorem readable_w64 : Try.prog.readableRec 57 = true := by kernel_rfl
set_option maxRecDepth 100000 in
theorem typed_w64 : 57 < Try.prog.types.size := of_decide_eq_true (by kernel_rfl)
set_option maxRecDepth 100000 in
theorem readable_bool : Try.prog.readableRec 4 = true := by kernel_rfl
set_option maxRecDepth 100000 in
theorem typed_bool : 4 < Try.prog.types.size := of_decide_eq_true (by kernel_rfl)
set_option maxRecDepth 100000 in
theorem open_w64 {H : Type} {enc : TypeId × Value → H} {W : World} {base : Nat} {v : Value} {d : DataW H} {ps : List MemPlace} (hok : Value.okWide Try.prog W .any base 57 v) (h : DataW.Trod enc Try.prog W 0 (fun _ => true) true 57 v d ps) :
    ∃ a : Nat, v = .int .u64 (a : Int) ∧ d = .lit (.int .u64 (a : Int)) ∧ (a : Int) ≤ 18446744073709551615 := by
  obtain ⟨n, h1, h2, _, h3⟩ := open_int Try.underlying57 hok h
  obtain ⟨k1, k2⟩ := u64_wf h3
  obtain ⟨a, rfl⟩ : ∃ a : Nat, n = (a : Int) := ⟨n.toNat, by omega⟩
  exact ⟨a, h1, h2, by omega⟩
set_option maxRecDepth 100000 in
theorem open_tf {H : Type} {enc : TypeId × Value → H} {W : World} {base : Nat} {v : Value} {d : DataW H} {ps : List MemPlace} (hok : Value.okWide Try.prog W .any base 4 v) (h : DataW.Trod enc Try.prog W 0 (fun _ => true) true 4 v d ps) :
    ∃ b : Bool, v = .bool b ∧ d = .lit (.bool b) := by
  obtain ⟨b, h1, h2, _⟩ := open_bool Try.underlying4 hok h
  exact ⟨b, h1, h2⟩
set_option maxRecDepth 100000 in
theorem readable_w32 : Try.prog.readableRec 125 = true := by kernel_rfl
set_option maxRecDepth 100000 in
theorem typed_w32 : 125 < Try.prog.types.size := of_decide_eq_true (by kernel_rfl)
set_option maxRecDepth 100000 in
theorem open_w32 {H : Type} {enc : TypeId × Value → H} {W : World} {base : Nat} {v : Value} {d : DataW H} {ps : List MemPlace} (hok : Value.okWide Try.prog W .any base 125 v) (h : DataW.Trod enc Try.prog W 0 (fun _ => true) true 125 v d ps) :
    ∃ a : Nat, v = .int .u32 (a : Int) ∧ d = .lit (.int .u32 (a : Int)) ∧ (a : Int) ≤ 4294967295 := by
  obtain ⟨n, h1, h2, _, h3⟩ := open_int Try.underlying125 hok h
  have : 0 ≤ n ∧ n ≤ 4294967295 := by simpa [Lit.wf, IntKind.min, IntKind.max, IntKind.signed, IntKind.bits] using h3
  obtain ⟨a, rfl⟩ : ∃ a : Nat, n = (a : Int) := ⟨n.toNat, by omega⟩
  exact ⟨a, h1, h2, this.2⟩
set_option maxRecDepth 100000 in
theorem readable_t32 : Try.prog.readableRec 21 = true := by kernel_rfl
set_option maxRecDepth 100000 in
theorem typed_t32 : 21 < Try.prog.types.size := of_decide_eq_true (by kernel_rfl)
set_option maxRecDepth 100000 in
theorem open_t32 {H : Type} {enc : TypeId × Value → H} {W : World} {base : Nat} {v : Value} {d : DataW H} {ps : List MemPlace} (hok : Value.okWide Try.prog W .any base 21 v) (h : DataW.Trod enc Try.prog W 0 (fun _ => true) true 21 v d ps) :
    ∃ z, v = .int .i32 z ∧ d = .lit (.int .i32 z) ∧ -2147483648 ≤ z ∧ z < 2147483648 := by
  obtain ⟨n, h1, h2, _, h3⟩ := open_int Try.underlying21 hok h
  have : -2147483648 ≤ n ∧ n ≤ 2147483647 := by simpa [Lit.wf, IntKind.min, IntKind.max, IntKind.signed, IntKind.bits] using h3
  exact ⟨n, h1, h2, by omega⟩
end Go.Proofs.Ytgppbimbampenaa
