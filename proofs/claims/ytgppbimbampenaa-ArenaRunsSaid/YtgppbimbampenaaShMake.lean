/- shape: matrices that are made: build, Identity, Transpose; At; Same. -/
import Derived.Test.YtgppbimbampenaaShSpec
namespace Go.Proofs.Ytgppbimbampenaa
open Go.RowKit Go.Shelf
theorem wplace {i j C : Nat} (hi : i ≤ 64) (hC : C ≤ 64) (hj : j ≤ 64) : IntKind.i64.wrap ((i : Int) * (C : Int)) = ((i * C : Nat) : Int) ∧ IntKind.i64.wrap (((i * C : Nat) : Int) + (j : Int)) = ((i * C + j : Nat) : Int) := by
  have h := Nat.mul_le_mul hi hC
  have e : ((i * C : Nat) : Int) = (i : Int) * (C : Int) := Int.natCast_mul _ _
  rw [← e]
  generalize i * C = P at *
  exact ⟨IntWalk.i64_in _ (by omega), by rw [IntWalk.i64_in _ (by omega)]; omega⟩
theorem bel_new (W : World) (o : Obj) : Below W.heap.size W (W.alloc o) := (Below.refl _ _).alloc (Nat.le_refl _) o
end Go.Proofs.Ytgppbimbampenaa
