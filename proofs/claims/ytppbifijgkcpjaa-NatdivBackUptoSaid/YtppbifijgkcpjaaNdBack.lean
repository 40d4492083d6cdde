/- vernierlaw02.NatdivBack: true, whatever the two lists. -/
import Derived.Test.YtppbifijgkcpjaaSqrt
namespace Go.Proofs.Ytppbifijgkcpjaa
open Go.RowKit Go.Shelf

theorem bits_zero {va : Value} {i : Nat} {w : World} (hA : Num w va 0 i) (hi : i ≤ 17592186044416) :
    Calls Try.prog 25 #[va] w fun e W' => e = .returned (.int .i64 0) ∧ Below w.heap.size w W' := bits_num hA hi
set_option maxRecDepth 100000 in
set_option maxHeartbeats 4000000 in
theorem ndback_zero (va vb : Value) (X i j : Nat) (w : World) (hA : Num w va X i) (hB : Num w vb 0 j) (hi : i ≤ 1048576) (hj : j ≤ 1048576) :
    Calls Try.prog 8 #[va, vb] w fun e W' => e = .returned (.bool true) ∧ Below w.heap.size w W' := by
  obtain ⟨a1, a2, a3, rfl⟩ := hA.slice
  obtain ⟨c1, c2, c3, rfl⟩ := hB.slice
  go_enter Try.func8, Try.ntmps8
  go_wp2_with fail
  refine (ndalive w).mono ?_
  rintro e w1 ⟨rfl, b1⟩
  have hA := hA.behind b1
  have hB := hB.behind b1
  have B1 := b1
  go_wp2_with fail
  refine (divmod_zero hA hB (by omega) (by omega)).mono ?_
  rintro e w2 ⟨rfl, b2⟩
  have hB := hB.behind b2
  have B2 := below_both B1 b2
  clear b2
  go_wp2_with fail
  refine (bits_zero hB (by omega)).mono ?_
  rintro e w3 ⟨rfl, b3⟩
  have B3 := below_both B2 b3
  clear b3
  go_wp2
  go_ret
  exact ⟨rfl, B3⟩
set_option maxRecDepth 100000 in
set_option maxHeartbeats 4000000 in
theorem ndback_num (va vb : Value) (X Y i j : Nat) (w : World) (hA : Num w va X i) (hB : Num w vb Y j) (hi : i ≤ 1048576) (hj : j ≤ 1048576) (hY : Y ≠ 0) :
    Calls Try.prog 8 #[va, vb] w fun e W' => e = .returned (.bool true) ∧ Below w.heap.size w W' := by
  have hXl := hA.lt
  have HQ : Hid (X / Y < 18446744073709551616 ^ i) := Lib.hid (Nat.lt_of_le_of_lt (Nat.div_le_self X Y) hXl)
  have HR : Hid (X % Y < 18446744073709551616 ^ i) := Lib.hid (Nat.lt_of_le_of_lt (Nat.mod_le X Y) hXl)
  have HE : Hid (X / Y * Y + X % Y = X) := Lib.hid (Nat.div_add_mod' X Y)
  have HC : Hid (cmpN (X % Y) Y = -1) := Lib.hid (cmpN_lt (Nat.mod_lt X (Nat.pos_of_ne_zero hY)))
  obtain ⟨a1, a2, a3, rfl⟩ := hA.slice
  obtain ⟨c1, c2, c3, rfl⟩ := hB.slice
  go_enter Try.func8, Try.ntmps8
  go_wp2_with fail
  refine (ndalive w).mono ?_
  rintro e w1 ⟨rfl, b1⟩
  have hA := hA.behind b1
  have hB := hB.behind b1
  have B1 := b1
  go_wp2_with fail
  refine (divmod_num hA hB (by omega) (by omega) hY).mono ?_
  rintro e w2 ⟨q, r, rfl, nq, nr, b2⟩
  have hA := hA.behind b2
  have hB := hB.behind b2
  have B2 := below_both B1 b2
  clear b2
  go_wp2_with fail
  refine (mul_num (nq.num HQ.out) hB (by omega)).mono ?_
  rintro e w3 ⟨v1, rfl, u1, n1, b3⟩
  have hA := hA.behind b3
  have hB := hB.behind b3
  have nr := nr.behind b3
  have B3 := below_both B2 b3
  clear b3
  go_wp2_with fail
  refine (add_num u1 (nr.num HR.out) (by omega) (by omega)).mono ?_
  rintro e w4 ⟨v2, rfl, u2, n2, b4⟩
  have hA := hA.behind b4
  have hB := hB.behind b4
  have nr := nr.behind b4
  have B4 := below_both B3 b4
  clear b4
  go_wp2_with fail
  refine (norm_num hA (by omega)).mono ?_
  rintro e w5 ⟨v3, rfl, u3, n3, b5⟩
  have hB := hB.behind b5
  have nr := nr.behind b5
  have u2 := u2.behind b5
  have n2 := n2.behind b5
  have B5 := below_both B4 b5
  clear b5
  go_wp2_with fail
  refine (same_new n2 n3 HE.out u2.lt (by omega)).mono ?_
  rintro e w6 ⟨rfl, b6⟩
  have hB := hB.behind b6
  have nr := nr.behind b6
  have B6 := below_both B5 b6
  clear b6
  go_wp2_with fail
  refine (cmp_is (nr.num HR.out) hB (by omega) (by omega) HC.out).mono ?_
  rintro e w7 ⟨rfl, b7⟩
  have B7 := below_both B6 b7
  clear b7
  go_wp2
  go_ret
  exact ⟨rfl, B7⟩
theorem ndback_walk (va : Value) (xs : List Nat) (vb : Value) (ys : List Nat) (w : World) (hA : Arg w va xs) (hxl : xs.length ≤ 1048576) (hx : Low 18446744073709551616 xs) (hB : Arg w vb ys) (hyl : ys.length ≤ 1048576) (hy : Low 18446744073709551616 ys) :
    Calls Try.prog 8 #[va, vb] w fun e W' => e = .returned (.bool true) ∧ Below w.heap.size w W' := by
  have hA' : Num w va _ 1048576 := ⟨xs, hA, hx, rfl, hxl⟩
  have hB' : Num w vb _ 1048576 := ⟨ys, hB, hy, rfl, hyl⟩
  by_cases h0 : val 18446744073709551616 ys = 0
  · rw [h0] at hB'
    exact ndback_zero va vb _ _ _ w hA' hB' (by omega) (by omega)
  · exact ndback_num va vb _ _ _ _ w hA' hB' (by omega) (by omega) h0
end Go.Proofs.Ytppbifijgkcpjaa
