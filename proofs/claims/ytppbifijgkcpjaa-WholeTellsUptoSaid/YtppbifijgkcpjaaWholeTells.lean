/- vernierlaw03.WholeTells: true, whatever the whole numbers. -/
import Derived.Test.YtppbifijgkcpjaaWholeTells1
import Derived.Test.YtppbifijgkcpjaaWholeTells2
import Derived.Lib.Hide
import Derived.IntWalk
namespace Go.Proofs.Ytppbifijgkcpjaa
open Go.RowKit Go.Shelf
attribute [local go_sem ↓] Go.wp_at_zero Go.wp_at_succ field_one

theorem wtells_walk (s0 : Bool) (b0 : Option Addr) (m0 c0 : Nat) (x0 : List Nat) (s1 : Bool) (b1 : Option Addr) (m1 c1 : Nat) (x1 : List Nat) (n : Int) (W : World)
    (a0 : Arg W (.slice b0 m0 c0) x0) (n0 : x0.length ≤ 1048576) (l0 : Low 18446744073709551616 x0) (a1 : Arg W (.slice b1 m1 c1) x1) (n1 : x1.length ≤ 1048576) (l1 : Low 18446744073709551616 x1) (h1 : -9223372036854775808 ≤ n) (h2 : n < 9223372036854775808) :
    Calls Try.prog 11 #[.agg #[.bool s0, .slice b0 m0 c0], .agg #[.bool s1, .slice b1 m1 c1], .int .i64 n] W fun e W' => e = .returned (.bool true) ∧ Below W.heap.size W W' := by
  have zA : Wv W s0 b0 m0 c0 _ 1048576 := ⟨_, ⟨x0, a0, l0, rfl, n0⟩, rfl⟩
  have zB : Wv W s1 b1 m1 c1 _ 1048576 := ⟨_, ⟨x1, a1, l1, rfl, n1⟩, rfl⟩
  by_cases hn : n < 0
  · exact wtells_neg (by omega) zA zB h1 h2 hn (by rw [IntKind.wrap_u64, IntKind.wrap_u64]; omega)
  · exact wtells_pos (by omega) zA zB h1 h2 hn (by rw [IntKind.wrap_u64]; omega)
end Go.Proofs.Ytppbifijgkcpjaa
