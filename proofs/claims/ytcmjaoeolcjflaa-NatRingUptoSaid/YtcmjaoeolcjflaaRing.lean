/- vernierlaw01.NatRing: true, whatever the three lists, as long as their products have room. -/
import Derived.Test.YtcmjaoeolcjflaaNums
namespace Go.Proofs.Ytcmjaoeolcjflaa
open Go.RowKit Go.Shelf

set_option maxHeartbeats 2000000 in
theorem ring_num (va vb vc : Value) (A B C : Nat) (w : World) (hA : Num w va A 1048576) (hB : Num w vb B 1048576) (hC : Num w vc C 1048576) :
    Calls Try.prog 4 #[va, vb, vc] w fun e W' => e = .returned (.bool true) ∧ Below w.heap.size w W' := by
  obtain ⟨a1, a2, a3, rfl⟩ := hA.slice
  obtain ⟨c1, c2, c3, rfl⟩ := hB.slice
  obtain ⟨d1, d2, d3, rfl⟩ := hC.slice
  go_enter Try.func4, Try.ntmps4
  go_wp2_with fail
  refine (alive_calls w).mono ?_
  rintro e w1 ⟨rfl, b1⟩
  have hA := hA.behind b1
  have hB := hB.behind b1
  have hC := hC.behind b1
  have B1 := b1
  go_wp2_with fail
  refine (add_num hB hC (by omega) (by omega)).mono ?_
  rintro e w2 ⟨v2, rfl, u1, n1, b2⟩
  have hA := hA.behind b2
  have hB := hB.behind b2
  have hC := hC.behind b2
  have B2 := below_both B1 b2
  go_wp2_with fail
  refine (mul_num hA u1 (by omega)).mono ?_
  rintro e w3 ⟨v3, rfl, u2, n2, b3⟩
  have hA := hA.behind b3
  have hB := hB.behind b3
  have hC := hC.behind b3
  have u1 := u1.behind b3
  have n1 := n1.behind b3
  have B3 := below_both B2 b3
  go_wp2_with fail
  refine (mul_num hA hB (by omega)).mono ?_
  rintro e w4 ⟨v4, rfl, u3, n3, b4⟩
  have hA := hA.behind b4
  have hB := hB.behind b4
  have hC := hC.behind b4
  have u1 := u1.behind b4
  have n1 := n1.behind b4
  have u2 := u2.behind b4
  have n2 := n2.behind b4
  have B4 := below_both B3 b4
  go_wp2_with fail
  refine (mul_num hA hC (by omega)).mono ?_
  rintro e w5 ⟨v5, rfl, u4, n4, b5⟩
  have hA := hA.behind b5
  have hB := hB.behind b5
  have hC := hC.behind b5
  have u1 := u1.behind b5
  have n1 := n1.behind b5
  have u2 := u2.behind b5
  have n2 := n2.behind b5
  have u3 := u3.behind b5
  have n3 := n3.behind b5
  have B5 := below_both B4 b5
  go_wp2_with fail
  refine (add_num u3 u4 (by omega) (by omega)).mono ?_
  rintro e w6 ⟨v6, rfl, u5, n5, b6⟩
  have hA := hA.behind b6
  have hB := hB.behind b6
  have hC := hC.behind b6
  have u1 := u1.behind b6
  have n1 := n1.behind b6
  have u2 := u2.behind b6
  have n2 := n2.behind b6
  have u3 := u3.behind b6
  have n3 := n3.behind b6
  have u4 := u4.behind b6
  have n4 := n4.behind b6
  have B6 := below_both B5 b6
  go_wp2_with fail
  refine (same_num n2 n5 (Nat.mul_add _ _ _) u2 (by omega)).mono ?_
  rintro e w7 ⟨rfl, b7⟩
  have hA := hA.behind b7
  have hB := hB.behind b7
  have hC := hC.behind b7
  have u1 := u1.behind b7
  have n1 := n1.behind b7
  have u2 := u2.behind b7
  have n2 := n2.behind b7
  have u3 := u3.behind b7
  have n3 := n3.behind b7
  have u4 := u4.behind b7
  have n4 := n4.behind b7
  have u5 := u5.behind b7
  have n5 := n5.behind b7
  have B7 := below_both B6 b7
  go_wp2_with fail
  refine (add_num hB hC (by omega) (by omega)).mono ?_
  rintro e w8 ⟨v8, rfl, u6, n6, b8⟩
  have hA := hA.behind b8
  have hB := hB.behind b8
  have hC := hC.behind b8
  have u1 := u1.behind b8
  have n1 := n1.behind b8
  have u2 := u2.behind b8
  have n2 := n2.behind b8
  have u3 := u3.behind b8
  have n3 := n3.behind b8
  have u4 := u4.behind b8
  have n4 := n4.behind b8
  have u5 := u5.behind b8
  have n5 := n5.behind b8
  have B8 := below_both B7 b8
  go_wp2_with fail
  refine (add_num hA u6 (by omega) (by omega)).mono ?_
  rintro e w9 ⟨v9, rfl, u7, n7, b9⟩
  have hA := hA.behind b9
  have hB := hB.behind b9
  have hC := hC.behind b9
  have u1 := u1.behind b9
  have n1 := n1.behind b9
  have u2 := u2.behind b9
  have n2 := n2.behind b9
  have u3 := u3.behind b9
  have n3 := n3.behind b9
  have u4 := u4.behind b9
  have n4 := n4.behind b9
  have u5 := u5.behind b9
  have n5 := n5.behind b9
  have u6 := u6.behind b9
  have n6 := n6.behind b9
  have B9 := below_both B8 b9
  go_wp2_with fail
  refine (add_num hC hB (by omega) (by omega)).mono ?_
  rintro e w10 ⟨v10, rfl, u8, n8, b10⟩
  have hA := hA.behind b10
  have hB := hB.behind b10
  have hC := hC.behind b10
  have u1 := u1.behind b10
  have n1 := n1.behind b10
  have u2 := u2.behind b10
  have n2 := n2.behind b10
  have u3 := u3.behind b10
  have n3 := n3.behind b10
  have u4 := u4.behind b10
  have n4 := n4.behind b10
  have u5 := u5.behind b10
  have n5 := n5.behind b10
  have u6 := u6.behind b10
  have n6 := n6.behind b10
  have u7 := u7.behind b10
  have n7 := n7.behind b10
  have B10 := below_both B9 b10
  go_wp2_with fail
  refine (add_num u8 hA (by omega) (by omega)).mono ?_
  rintro e w11 ⟨v11, rfl, u9, n9, b11⟩
  have hA := hA.behind b11
  have hB := hB.behind b11
  have hC := hC.behind b11
  have u1 := u1.behind b11
  have n1 := n1.behind b11
  have u2 := u2.behind b11
  have n2 := n2.behind b11
  have u3 := u3.behind b11
  have n3 := n3.behind b11
  have u4 := u4.behind b11
  have n4 := n4.behind b11
  have u5 := u5.behind b11
  have n5 := n5.behind b11
  have u6 := u6.behind b11
  have n6 := n6.behind b11
  have u7 := u7.behind b11
  have n7 := n7.behind b11
  have u8 := u8.behind b11
  have n8 := n8.behind b11
  have B11 := below_both B10 b11
  go_wp2_with fail
  refine (same_num n7 n9 (by omega) u7 (by omega)).mono ?_
  rintro e w12 ⟨rfl, b12⟩
  have hA := hA.behind b12
  have hB := hB.behind b12
  have hC := hC.behind b12
  have u1 := u1.behind b12
  have n1 := n1.behind b12
  have u2 := u2.behind b12
  have n2 := n2.behind b12
  have u3 := u3.behind b12
  have n3 := n3.behind b12
  have u4 := u4.behind b12
  have n4 := n4.behind b12
  have u5 := u5.behind b12
  have n5 := n5.behind b12
  have u6 := u6.behind b12
  have n6 := n6.behind b12
  have u7 := u7.behind b12
  have n7 := n7.behind b12
  have u8 := u8.behind b12
  have n8 := n8.behind b12
  have u9 := u9.behind b12
  have n9 := n9.behind b12
  have B12 := below_both B11 b12
  go_wp2_with fail
  refine (mul_num hB hC (by omega)).mono ?_
  rintro e w13 ⟨v13, rfl, ua, na, b13⟩
  have hA := hA.behind b13
  have hB := hB.behind b13
  have hC := hC.behind b13
  have u1 := u1.behind b13
  have n1 := n1.behind b13
  have u2 := u2.behind b13
  have n2 := n2.behind b13
  have u3 := u3.behind b13
  have n3 := n3.behind b13
  have u4 := u4.behind b13
  have n4 := n4.behind b13
  have u5 := u5.behind b13
  have n5 := n5.behind b13
  have u6 := u6.behind b13
  have n6 := n6.behind b13
  have u7 := u7.behind b13
  have n7 := n7.behind b13
  have u8 := u8.behind b13
  have n8 := n8.behind b13
  have u9 := u9.behind b13
  have n9 := n9.behind b13
  have B13 := below_both B12 b13
  go_wp2_with fail
  refine (mul_num hA ua (by omega)).mono ?_
  rintro e w14 ⟨v14, rfl, ub, nb, b14⟩
  have hA := hA.behind b14
  have hB := hB.behind b14
  have hC := hC.behind b14
  have u1 := u1.behind b14
  have n1 := n1.behind b14
  have u2 := u2.behind b14
  have n2 := n2.behind b14
  have u3 := u3.behind b14
  have n3 := n3.behind b14
  have u4 := u4.behind b14
  have n4 := n4.behind b14
  have u5 := u5.behind b14
  have n5 := n5.behind b14
  have u6 := u6.behind b14
  have n6 := n6.behind b14
  have u7 := u7.behind b14
  have n7 := n7.behind b14
  have u8 := u8.behind b14
  have n8 := n8.behind b14
  have u9 := u9.behind b14
  have n9 := n9.behind b14
  have ua := ua.behind b14
  have na := na.behind b14
  have B14 := below_both B13 b14
  go_wp2_with fail
  refine (mul_num hC hB (by omega)).mono ?_
  rintro e w15 ⟨v15, rfl, uc, nc, b15⟩
  have hA := hA.behind b15
  have hB := hB.behind b15
  have hC := hC.behind b15
  have u1 := u1.behind b15
  have n1 := n1.behind b15
  have u2 := u2.behind b15
  have n2 := n2.behind b15
  have u3 := u3.behind b15
  have n3 := n3.behind b15
  have u4 := u4.behind b15
  have n4 := n4.behind b15
  have u5 := u5.behind b15
  have n5 := n5.behind b15
  have u6 := u6.behind b15
  have n6 := n6.behind b15
  have u7 := u7.behind b15
  have n7 := n7.behind b15
  have u8 := u8.behind b15
  have n8 := n8.behind b15
  have u9 := u9.behind b15
  have n9 := n9.behind b15
  have ua := ua.behind b15
  have na := na.behind b15
  have ub := ub.behind b15
  have nb := nb.behind b15
  have B15 := below_both B14 b15
  go_wp2_with fail
  refine (mul_num uc hA (by omega)).mono ?_
  rintro e w16 ⟨v16, rfl, ud, nd, b16⟩
  have hA := hA.behind b16
  have hB := hB.behind b16
  have hC := hC.behind b16
  have u1 := u1.behind b16
  have n1 := n1.behind b16
  have u2 := u2.behind b16
  have n2 := n2.behind b16
  have u3 := u3.behind b16
  have n3 := n3.behind b16
  have u4 := u4.behind b16
  have n4 := n4.behind b16
  have u5 := u5.behind b16
  have n5 := n5.behind b16
  have u6 := u6.behind b16
  have n6 := n6.behind b16
  have u7 := u7.behind b16
  have n7 := n7.behind b16
  have u8 := u8.behind b16
  have n8 := n8.behind b16
  have u9 := u9.behind b16
  have n9 := n9.behind b16
  have ua := ua.behind b16
  have na := na.behind b16
  have ub := ub.behind b16
  have nb := nb.behind b16
  have uc := uc.behind b16
  have nc := nc.behind b16
  have B16 := below_both B15 b16
  go_wp2_with fail
  refine (same_num nb nd (by rw [Nat.mul_comm C B, Nat.mul_comm]) ub (by omega)).mono ?_
  rintro e w17 ⟨rfl, b17⟩
  have hA := hA.behind b17
  have hB := hB.behind b17
  have hC := hC.behind b17
  have u1 := u1.behind b17
  have n1 := n1.behind b17
  have u2 := u2.behind b17
  have n2 := n2.behind b17
  have u3 := u3.behind b17
  have n3 := n3.behind b17
  have u4 := u4.behind b17
  have n4 := n4.behind b17
  have u5 := u5.behind b17
  have n5 := n5.behind b17
  have u6 := u6.behind b17
  have n6 := n6.behind b17
  have u7 := u7.behind b17
  have n7 := n7.behind b17
  have u8 := u8.behind b17
  have n8 := n8.behind b17
  have u9 := u9.behind b17
  have n9 := n9.behind b17
  have ua := ua.behind b17
  have na := na.behind b17
  have ub := ub.behind b17
  have nb := nb.behind b17
  have uc := uc.behind b17
  have nc := nc.behind b17
  have ud := ud.behind b17
  have nd := nd.behind b17
  have B17 := below_both B16 b17
  go_wp2_with fail
  go_ret
  exact ⟨rfl, B17⟩
theorem ring_walk (va vb vc : Value) (xs ys zs : List Nat) (w : World) (hA : Arg w va xs) (hB : Arg w vb ys) (hC : Arg w vc zs) (hxl : xs.length ≤ 1048576) (hyl : ys.length ≤ 1048576) (hzl : zs.length ≤ 1048576)
    (hx : Low 18446744073709551616 xs) (hy : Low 18446744073709551616 ys) (hz : Low 18446744073709551616 zs) :
    Calls Try.prog 4 #[va, vb, vc] w fun e W' => e = .returned (.bool true) ∧ Below w.heap.size w W' :=
  ring_num va vb vc _ _ _ w ⟨xs, hA, hx, rfl, hxl⟩ ⟨ys, hB, hy, rfl, hyl⟩ ⟨zs, hC, hz, rfl, hzl⟩
end Go.Proofs.Ytcmjaoeolcjflaa
