/- vernierlaw03.WholeTells: true, whatever the whole numbers. -/
import Derived.Test.YtppbifijgkcpjaaWholeOrder
import Derived.Lib.Hide
import Derived.IntWalk
namespace Go.Proofs.Ytppbifijgkcpjaa
open Go.RowKit Go.Shelf
attribute [local go_sem ↓] Go.wp_at_zero Go.wp_at_succ field_one

theorem up_diff (x : Int) : (up x : Int) - (up (-x) : Int) = x := by unfold up; omega
theorem up_sum (x y : Int) : ((up x + up y : Nat) : Int) - ((up (-x) + up (-y) : Nat) : Int) = x + y := by have := up_diff x; have := up_diff y; omega
theorem up_less (x y : Int) : ((up x + up (-y) : Nat) : Int) - ((up (-x) + up y : Nat) : Int) = x - y := by have := up_diff x; have := up_diff y; omega
theorem up_prod (x y : Int) : ((up x * up y + up (-x) * up (-y) : Nat) : Int) - ((up x * up (-y) + up (-x) * up y : Nat) : Int) = x * y := by
  have hx := up_diff x
  have hy := up_diff y
  generalize up x = p at *
  generalize up (-x) = q at *
  generalize up y = r at *
  generalize up (-y) = s at *
  subst hx hy
  simp only [Int.natCast_add, Int.natCast_mul, Int.sub_mul, Int.mul_sub]
  generalize (p : Int) * r = a1
  generalize (p : Int) * s = a2
  generalize (q : Int) * r = a3
  generalize (q : Int) * s = a4
  omega
theorem up_cmp (x y : Int) : cmpN (up x + up (-y)) (up (-x) + up y) = cmpZ x y := by
  unfold cmpN cmpZ up
  (repeat' split) <;> omega
theorem up_sign (x : Int) : cmpN (up x) (up (-x)) = cmpZ x 0 := by
  unfold cmpN cmpZ up
  (repeat' split) <;> omega
theorem rcmp_is {va vb : Value} {M N i j : Nat} {c : Int} {w : World} (hA : RN w va M i) (hB : RN w vb N j) (hi : i ≤ 4398046511104) (hj : j ≤ 4398046511104) (h : cmpN M N = c) :
    Calls Try.prog 24 #[va, vb] w fun e W' => e = .returned (.int .i64 c) ∧ Below w.heap.size w W' := by
  subst h
  exact rcmp_num hA hB hi hj
theorem zsign_is {s : Bool} {a : Option Addr} {m cap : Nat} {x c : Int} {i : Nat} {w : World} (hA : Wv w s a m cap x i) (hi : i ≤ 17592186044416) (h : cmpZ x 0 = c) :
    Calls Try.prog 46 #[.agg #[.bool s, .slice a m cap]] w fun e W' => e = .returned (.int .i64 c) ∧ Below w.heap.size w W' := by
  subst h
  exact zsign hA hi
/-- a made number, by what it is -/
theorem wmade_is {va vb : Value} {P Q i j : Nat} {z : Int} {w : World} (hA : RN w va P i) (hB : RN w vb Q j) (hi : i ≤ 4398046511104) (hj : j ≤ 4398046511104) (h : (P : Int) - Q = z) :
    Calls Try.prog 39 #[va, vb] w fun e W' => ∃ b a m c, e = .returned (.agg #[.bool b, .slice a m c]) ∧ WNew w.heap.size W' (.agg #[.bool b, .slice a m c]) z ∧ Below w.heap.size w W' := by
  subst h
  exact wmade hA hB hi hj
set_option maxRecDepth 100000 in
theorem word_num {x : Nat} {w : World} (hx : x < 18446744073709551616) :
    Calls Try.prog 40 #[.int .u64 x] w fun e W' => ∃ v, e = .returned v ∧ RN W' v x 4 ∧ Below w.heap.size w W' := by
  have hN := num_one w x hx
  have hB := bel_alloc w (.cells #[.int .u64 x] 38)
  go_enter Try.func40, Try.ntmps40
  go_wp2_with fail
  generalize (w.alloc (.cells #[.int .u64 x] 38)) = W0 at hN hB ⊢
  refine (of_num hN (by omega)).mono ?_
  rintro e w1 ⟨v, rfl, r1, b1⟩
  obtain ⟨xa, xc, rfl, hxc⟩ := r1.slice
  go_wp2_with fail
  go_ret
  exact ⟨_, rfl, r1, below_both hB b1⟩
theorem up_diff2 (x : Int) : (up (-x) : Int) - (up x : Int) = -x := by unfold up; omega
end Go.Proofs.Ytppbifijgkcpjaa
