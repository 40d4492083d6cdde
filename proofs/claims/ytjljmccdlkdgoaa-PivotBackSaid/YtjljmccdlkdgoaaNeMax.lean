/- max of two ints. -/
import Derived.Test.YtjljmccdlkdgoaaOu
namespace Go.Proofs.Ytjljmccdlkdgoaa
open Go.RowKit Go.Shelf
theorem max_twoM (w : World) (ts : Array TypeId) (t : TypeId) (x y : Int) : (Builtin.max_ ts t #[.int .i64 x, .int .i64 y]).run Try.prog w = .ok (.int .i64 (max x y)) w := by
  have e1 : max x y = if y > x then y else x := by split <;> omega
  rw [e1]
  simp [Builtin.max_, Builtin.max2]
end Go.Proofs.Ytjljmccdlkdgoaa
