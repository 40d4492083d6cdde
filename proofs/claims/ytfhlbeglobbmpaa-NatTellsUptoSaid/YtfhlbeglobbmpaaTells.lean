/- vernierlaw01.NatTells: true, whatever the two lists, as long as their products have room. -/
import Derived.Test.YtfhlbeglobbmpaaRNums
namespace Go.Proofs.Ytfhlbeglobbmpaa
open Go.RowKit Go.Shelf

theorem RN.head {w : World} {v : Value} {N k : Nat} (h : RN w v N k) (h0 : N ≠ 0) : ∃ S off cap, v = .slice (some ⟨S, off, none⟩) (digs 65536 N).length cap ∧ w.cell? ⟨S, off, none⟩ = some (.int .i64 ((N % 65536 : Nat) : Int)) ∧ 0 < (digs 65536 N).length := by
  obtain ⟨⟨S, _, h2⟩, _⟩ := h
  have hd := digs_pos (B := 65536) (by decide) h0
  have hl : 0 < (digs 65536 N).length := by rw [hd]; simp
  rcases h2 with ⟨_, h⟩ | ⟨off, cap, e, _, hc⟩
  · rw [h] at hl; simp at hl
  · have h3 := hc 0 hl
    rw [Nat.add_zero, hd, lim_cons_zero] at h3
    exact ⟨S, off, cap, e, h3, hl⟩
set_option maxRecDepth 100000 in
set_option maxHeartbeats 4000000 in
theorem tells_zero (va vb : Value) (A B : Nat) (w : World) (h0 : Hid (A = 0)) (hA : Num w va A 1048576) (hB : Num w vb B 1048576) :
    Calls Try.prog 3 #[va, vb] w fun e W' => e = .returned (.bool true) ∧ Below w.heap.size w W' := by
  obtain ⟨a1, a2, a3, rfl⟩ := hA.slice
  obtain ⟨c1, c2, c3, rfl⟩ := hB.slice
  go_enter Try.func3, Try.ntmps3
  go_wp2_with fail
  refine (of_num hA (by omega)).mono ?_
  rintro e w1 ⟨vx, rfl, rx, b1⟩
  have hA := hA.behind b1
  have hB := hB.behind b1
  have B1 := b1
  go_wp2_with fail
  refine (of_num hB (by omega)).mono ?_
  rintro e w2 ⟨vy, rfl, ry, b2⟩
  have hA := hA.behind b2
  have hB := hB.behind b2
  have rx := rx.behind b2
  have B2 := below_both B1 b2
  clear b2
  obtain ⟨xa, xc, rfl, hxc⟩ := rx.slice
  have hl0 : Hid ((digs 65536 A).length = 0) := Lib.hid (by rw [h0.out, digs_zero]; rfl)
  have he0 : (((digs 65536 A).length : Int) == 0) = true := by rw [hl0.out]; rfl
  obtain ⟨ya, yc, rfl, hyc⟩ := ry.slice
  go_wp2_with fail
  refine (add_num hA hB (by omega) (by omega)).mono ?_
  rintro e w3 ⟨v1, rfl, u1, n1, b3⟩
  have hA := hA.behind b3
  have hB := hB.behind b3
  have rx := rx.behind b3
  have ry := ry.behind b3
  have B3 := below_both B2 b3
  clear b3
  go_wp2_with fail
  refine (radd_num rx ry (by omega) (by omega)).mono ?_
  rintro e w4 ⟨v2, rfl, r2, b4⟩
  have hA := hA.behind b4
  have hB := hB.behind b4
  have rx := rx.behind b4
  have ry := ry.behind b4
  have u1 := u1.behind b4
  have n1 := n1.behind b4
  have B4 := below_both B3 b4
  clear b4
  go_wp2_with fail
  refine (limbs_num r2 (by omega)).mono ?_
  rintro e w5 ⟨v3, rfl, n3, b5⟩
  have hA := hA.behind b5
  have hB := hB.behind b5
  have rx := rx.behind b5
  have ry := ry.behind b5
  have u1 := u1.behind b5
  have n1 := n1.behind b5
  have B5 := below_both B4 b5
  clear b5
  go_wp2_with fail
  refine (same_new n1 n3 rfl u1.lt (by omega)).mono ?_
  rintro e w6 ⟨rfl, b6⟩
  have hA := hA.behind b6
  have hB := hB.behind b6
  have rx := rx.behind b6
  have ry := ry.behind b6
  have B6 := below_both B5 b6
  clear b6
  go_wp2_with fail
  refine (sub_num hA hB (by omega) (by omega)).mono ?_
  rintro e w7 ⟨v4, rfl, u4, n4, b7⟩
  have hA := hA.behind b7
  have hB := hB.behind b7
  have rx := rx.behind b7
  have ry := ry.behind b7
  have B7 := below_both B6 b7
  clear b7
  go_wp2_with fail
  refine (rsub_num rx ry (by omega) (by omega)).mono ?_
  rintro e w8 ⟨v5, rfl, r5, b8⟩
  have hA := hA.behind b8
  have hB := hB.behind b8
  have rx := rx.behind b8
  have ry := ry.behind b8
  have u4 := u4.behind b8
  have n4 := n4.behind b8
  have B8 := below_both B7 b8
  clear b8
  go_wp2_with fail
  refine (limbs_num r5 (by omega)).mono ?_
  rintro e w9 ⟨v6, rfl, n6, b9⟩
  have hA := hA.behind b9
  have hB := hB.behind b9
  have rx := rx.behind b9
  have ry := ry.behind b9
  have u4 := u4.behind b9
  have n4 := n4.behind b9
  have B9 := below_both B8 b9
  clear b9
  go_wp2_with fail
  refine (same_new n4 n6 rfl u4.lt (by omega)).mono ?_
  rintro e w10 ⟨rfl, b10⟩
  have hA := hA.behind b10
  have hB := hB.behind b10
  have rx := rx.behind b10
  have ry := ry.behind b10
  have B10 := below_both B9 b10
  clear b10
  go_wp2_with fail
  refine (mul_num hA hB (by omega)).mono ?_
  rintro e w11 ⟨v7, rfl, u7, n7, b11⟩
  have hA := hA.behind b11
  have hB := hB.behind b11
  have rx := rx.behind b11
  have ry := ry.behind b11
  have B11 := below_both B10 b11
  clear b11
  go_wp2_with fail
  refine (rmul_num rx ry (by omega) (by omega)).mono ?_
  rintro e w12 ⟨v8, rfl, r8, b12⟩
  have hA := hA.behind b12
  have hB := hB.behind b12
  have rx := rx.behind b12
  have ry := ry.behind b12
  have u7 := u7.behind b12
  have n7 := n7.behind b12
  have B12 := below_both B11 b12
  clear b12
  go_wp2_with fail
  refine (limbs_num r8 (by omega)).mono ?_
  rintro e w13 ⟨v9, rfl, n9, b13⟩
  have hA := hA.behind b13
  have hB := hB.behind b13
  have rx := rx.behind b13
  have ry := ry.behind b13
  have u7 := u7.behind b13
  have n7 := n7.behind b13
  have B13 := below_both B12 b13
  clear b13
  go_wp2_with fail
  refine (same_new n7 n9 rfl u7.lt (by omega)).mono ?_
  rintro e w14 ⟨rfl, b14⟩
  have hA := hA.behind b14
  have hB := hB.behind b14
  have rx := rx.behind b14
  have ry := ry.behind b14
  have B14 := below_both B13 b14
  clear b14
  go_wp2_with fail
  refine (cmp_num hA hB (by omega) (by omega)).mono ?_
  rintro e w15 ⟨rfl, b15⟩
  have hA := hA.behind b15
  have rx := rx.behind b15
  have ry := ry.behind b15
  have B15 := below_both B14 b15
  clear b15
  go_wp2_with fail
  refine (rcmp_num rx ry (by omega) (by omega)).mono ?_
  rintro e w16 ⟨rfl, b16⟩
  have hA := hA.behind b16
  have rx := rx.behind b16
  have B16 := below_both B15 b16
  clear b16
  go_wp2_with fail
  refine (bits_num hA (by omega)).mono ?_
  rintro e w17 ⟨rfl, b17⟩
  have hA := hA.behind b17
  have rx := rx.behind b17
  have B17 := below_both B16 b17
  clear b17
  go_wp2_with fail
  refine (rbits_num rx (by omega)).mono ?_
  rintro e w18 ⟨rfl, b18⟩
  have hA := hA.behind b18
  have rx := rx.behind b18
  have B18 := below_both B17 b18
  clear b18
  go_wp2_with fail
  refine (even_num hA).mono ?_
  rintro e w19 ⟨rfl, b19⟩
  have hA := hA.behind b19
  have rx := rx.behind b19
  have B19 := below_both B18 b19
  clear b19
  rw [show decide (A % 2 = 0) = true by rw [h0.out]; rfl]
  go_wp2_with fail
  refine (norm_num hA (by omega)).mono ?_
  rintro e w20 ⟨va1, rfl, ua, na, b20⟩
  have rx := rx.behind b20
  have B20 := below_both B19 b20
  clear b20
  go_wp2_with fail
  refine (limbs_num rx (by omega)).mono ?_
  rintro e w21 ⟨vb1, rfl, nb, b21⟩
  have ua := ua.behind b21
  have na := na.behind b21
  have B21 := below_both B20 b21
  clear b21
  go_wp2_with fail
  refine (same_new na nb rfl ua.lt (by omega)).mono ?_
  rintro e w22 ⟨rfl, b22⟩
  have B22 := below_both B21 b22
  clear b22
  go_wp2_with fail
  refine (alive_calls _).mono ?_
  rintro e w23 ⟨rfl, b23⟩
  have B23 := below_both B22 b23
  clear b23
  go_wp2
  go_ret
  exact ⟨rfl, B23⟩
set_option maxRecDepth 100000 in
set_option maxHeartbeats 4000000 in
theorem tells_even (va vb : Value) (A B : Nat) (w : World) (h0 : Hid (A ≠ 0)) (hp : Hid (A % 2 = 0)) (hA : Num w va A 1048576) (hB : Num w vb B 1048576) :
    Calls Try.prog 3 #[va, vb] w fun e W' => e = .returned (.bool true) ∧ Below w.heap.size w W' := by
  obtain ⟨a1, a2, a3, rfl⟩ := hA.slice
  obtain ⟨c1, c2, c3, rfl⟩ := hB.slice
  go_enter Try.func3, Try.ntmps3
  go_wp2_with fail
  refine (of_num hA (by omega)).mono ?_
  rintro e w1 ⟨vx, rfl, rx, b1⟩
  have hA := hA.behind b1
  have hB := hB.behind b1
  have B1 := b1
  go_wp2_with fail
  refine (of_num hB (by omega)).mono ?_
  rintro e w2 ⟨vy, rfl, ry, b2⟩
  have hA := hA.behind b2
  have hB := hB.behind b2
  have rx := rx.behind b2
  have B2 := below_both B1 b2
  clear b2
  obtain ⟨xs, xo, xc, rfl, hcell, hlen⟩ := rx.head h0.out
  have he0 : (((digs 65536 A).length : Int) == 0) = false := beq_eq_false_iff_ne.2 (by omega)
  have hpar2 : ((A : Int) % 2 == 0) = true := by have := hp.out; simp; omega
  have hpar : (((A % 65536 : Nat) : Int) % 2 == 0) = true := by have := hp.out; simp; omega
  obtain ⟨ya, yc, rfl, hyc⟩ := ry.slice
  go_wp2_with fail
  refine (add_num hA hB (by omega) (by omega)).mono ?_
  rintro e w3 ⟨v1, rfl, u1, n1, b3⟩
  have hA := hA.behind b3
  have hB := hB.behind b3
  have rx := rx.behind b3
  have ry := ry.behind b3
  have B3 := below_both B2 b3
  clear b3
  clear hcell
  go_wp2_with fail
  refine (radd_num rx ry (by omega) (by omega)).mono ?_
  rintro e w4 ⟨v2, rfl, r2, b4⟩
  have hA := hA.behind b4
  have hB := hB.behind b4
  have rx := rx.behind b4
  have ry := ry.behind b4
  have u1 := u1.behind b4
  have n1 := n1.behind b4
  have B4 := below_both B3 b4
  clear b4
  go_wp2_with fail
  refine (limbs_num r2 (by omega)).mono ?_
  rintro e w5 ⟨v3, rfl, n3, b5⟩
  have hA := hA.behind b5
  have hB := hB.behind b5
  have rx := rx.behind b5
  have ry := ry.behind b5
  have u1 := u1.behind b5
  have n1 := n1.behind b5
  have B5 := below_both B4 b5
  clear b5
  go_wp2_with fail
  refine (same_new n1 n3 rfl u1.lt (by omega)).mono ?_
  rintro e w6 ⟨rfl, b6⟩
  have hA := hA.behind b6
  have hB := hB.behind b6
  have rx := rx.behind b6
  have ry := ry.behind b6
  have B6 := below_both B5 b6
  clear b6
  go_wp2_with fail
  refine (sub_num hA hB (by omega) (by omega)).mono ?_
  rintro e w7 ⟨v4, rfl, u4, n4, b7⟩
  have hA := hA.behind b7
  have hB := hB.behind b7
  have rx := rx.behind b7
  have ry := ry.behind b7
  have B7 := below_both B6 b7
  clear b7
  go_wp2_with fail
  refine (rsub_num rx ry (by omega) (by omega)).mono ?_
  rintro e w8 ⟨v5, rfl, r5, b8⟩
  have hA := hA.behind b8
  have hB := hB.behind b8
  have rx := rx.behind b8
  have ry := ry.behind b8
  have u4 := u4.behind b8
  have n4 := n4.behind b8
  have B8 := below_both B7 b8
  clear b8
  go_wp2_with fail
  refine (limbs_num r5 (by omega)).mono ?_
  rintro e w9 ⟨v6, rfl, n6, b9⟩
  have hA := hA.behind b9
  have hB := hB.behind b9
  have rx := rx.behind b9
  have ry := ry.behind b9
  have u4 := u4.behind b9
  have n4 := n4.behind b9
  have B9 := below_both B8 b9
  clear b9
  go_wp2_with fail
  refine (same_new n4 n6 rfl u4.lt (by omega)).mono ?_
  rintro e w10 ⟨rfl, b10⟩
  have hA := hA.behind b10
  have hB := hB.behind b10
  have rx := rx.behind b10
  have ry := ry.behind b10
  have B10 := below_both B9 b10
  clear b10
  go_wp2_with fail
  refine (mul_num hA hB (by omega)).mono ?_
  rintro e w11 ⟨v7, rfl, u7, n7, b11⟩
  have hA := hA.behind b11
  have hB := hB.behind b11
  have rx := rx.behind b11
  have ry := ry.behind b11
  have B11 := below_both B10 b11
  clear b11
  go_wp2_with fail
  refine (rmul_num rx ry (by omega) (by omega)).mono ?_
  rintro e w12 ⟨v8, rfl, r8, b12⟩
  have hA := hA.behind b12
  have hB := hB.behind b12
  have rx := rx.behind b12
  have ry := ry.behind b12
  have u7 := u7.behind b12
  have n7 := n7.behind b12
  have B12 := below_both B11 b12
  clear b12
  go_wp2_with fail
  refine (limbs_num r8 (by omega)).mono ?_
  rintro e w13 ⟨v9, rfl, n9, b13⟩
  have hA := hA.behind b13
  have hB := hB.behind b13
  have rx := rx.behind b13
  have ry := ry.behind b13
  have u7 := u7.behind b13
  have n7 := n7.behind b13
  have B13 := below_both B12 b13
  clear b13
  go_wp2_with fail
  refine (same_new n7 n9 rfl u7.lt (by omega)).mono ?_
  rintro e w14 ⟨rfl, b14⟩
  have hA := hA.behind b14
  have hB := hB.behind b14
  have rx := rx.behind b14
  have ry := ry.behind b14
  have B14 := below_both B13 b14
  clear b14
  go_wp2_with fail
  refine (cmp_num hA hB (by omega) (by omega)).mono ?_
  rintro e w15 ⟨rfl, b15⟩
  have hA := hA.behind b15
  have rx := rx.behind b15
  have ry := ry.behind b15
  have B15 := below_both B14 b15
  clear b15
  go_wp2_with fail
  refine (rcmp_num rx ry (by omega) (by omega)).mono ?_
  rintro e w16 ⟨rfl, b16⟩
  have hA := hA.behind b16
  have rx := rx.behind b16
  have B16 := below_both B15 b16
  clear b16
  go_wp2_with fail
  refine (bits_num hA (by omega)).mono ?_
  rintro e w17 ⟨rfl, b17⟩
  have hA := hA.behind b17
  have rx := rx.behind b17
  have B17 := below_both B16 b17
  clear b17
  go_wp2_with fail
  refine (rbits_num rx (by omega)).mono ?_
  rintro e w18 ⟨rfl, b18⟩
  have hA := hA.behind b18
  have rx := rx.behind b18
  have B18 := below_both B17 b18
  clear b18
  go_wp2_with fail
  refine (even_num hA).mono ?_
  rintro e w19 ⟨rfl, b19⟩
  have hA := hA.behind b19
  have rx := rx.behind b19
  have B19 := below_both B18 b19
  clear b19
  rw [show decide (A % 2 = 0) = true by rw [hp.out]; rfl]
  go_wp2_with fail
  refine (norm_num hA (by omega)).mono ?_
  rintro e w20 ⟨va1, rfl, ua, na, b20⟩
  have rx := rx.behind b20
  have B20 := below_both B19 b20
  clear b20
  go_wp2_with fail
  refine (limbs_num rx (by omega)).mono ?_
  rintro e w21 ⟨vb1, rfl, nb, b21⟩
  have ua := ua.behind b21
  have na := na.behind b21
  have B21 := below_both B20 b21
  clear b21
  go_wp2_with fail
  refine (same_new na nb rfl ua.lt (by omega)).mono ?_
  rintro e w22 ⟨rfl, b22⟩
  have B22 := below_both B21 b22
  clear b22
  go_wp2_with fail
  refine (alive_calls _).mono ?_
  rintro e w23 ⟨rfl, b23⟩
  have B23 := below_both B22 b23
  clear b23
  go_wp2
  go_ret
  exact ⟨rfl, B23⟩
set_option maxRecDepth 100000 in
set_option maxHeartbeats 4000000 in
theorem tells_odd (va vb : Value) (A B : Nat) (w : World) (h0 : Hid (A ≠ 0)) (hp : Hid (A % 2 = 1)) (hA : Num w va A 1048576) (hB : Num w vb B 1048576) :
    Calls Try.prog 3 #[va, vb] w fun e W' => e = .returned (.bool true) ∧ Below w.heap.size w W' := by
  obtain ⟨a1, a2, a3, rfl⟩ := hA.slice
  obtain ⟨c1, c2, c3, rfl⟩ := hB.slice
  go_enter Try.func3, Try.ntmps3
  go_wp2_with fail
  refine (of_num hA (by omega)).mono ?_
  rintro e w1 ⟨vx, rfl, rx, b1⟩
  have hA := hA.behind b1
  have hB := hB.behind b1
  have B1 := b1
  go_wp2_with fail
  refine (of_num hB (by omega)).mono ?_
  rintro e w2 ⟨vy, rfl, ry, b2⟩
  have hA := hA.behind b2
  have hB := hB.behind b2
  have rx := rx.behind b2
  have B2 := below_both B1 b2
  clear b2
  obtain ⟨xs, xo, xc, rfl, hcell, hlen⟩ := rx.head h0.out
  have he0 : (((digs 65536 A).length : Int) == 0) = false := beq_eq_false_iff_ne.2 (by omega)
  have hpar2 : ((A : Int) % 2 == 0) = false := by have := hp.out; simp; omega
  have hpar : (((A % 65536 : Nat) : Int) % 2 == 0) = false := by have := hp.out; simp; omega
  obtain ⟨ya, yc, rfl, hyc⟩ := ry.slice
  go_wp2_with fail
  refine (add_num hA hB (by omega) (by omega)).mono ?_
  rintro e w3 ⟨v1, rfl, u1, n1, b3⟩
  have hA := hA.behind b3
  have hB := hB.behind b3
  have rx := rx.behind b3
  have ry := ry.behind b3
  have B3 := below_both B2 b3
  clear b3
  clear hcell
  go_wp2_with fail
  refine (radd_num rx ry (by omega) (by omega)).mono ?_
  rintro e w4 ⟨v2, rfl, r2, b4⟩
  have hA := hA.behind b4
  have hB := hB.behind b4
  have rx := rx.behind b4
  have ry := ry.behind b4
  have u1 := u1.behind b4
  have n1 := n1.behind b4
  have B4 := below_both B3 b4
  clear b4
  go_wp2_with fail
  refine (limbs_num r2 (by omega)).mono ?_
  rintro e w5 ⟨v3, rfl, n3, b5⟩
  have hA := hA.behind b5
  have hB := hB.behind b5
  have rx := rx.behind b5
  have ry := ry.behind b5
  have u1 := u1.behind b5
  have n1 := n1.behind b5
  have B5 := below_both B4 b5
  clear b5
  go_wp2_with fail
  refine (same_new n1 n3 rfl u1.lt (by omega)).mono ?_
  rintro e w6 ⟨rfl, b6⟩
  have hA := hA.behind b6
  have hB := hB.behind b6
  have rx := rx.behind b6
  have ry := ry.behind b6
  have B6 := below_both B5 b6
  clear b6
  go_wp2_with fail
  refine (sub_num hA hB (by omega) (by omega)).mono ?_
  rintro e w7 ⟨v4, rfl, u4, n4, b7⟩
  have hA := hA.behind b7
  have hB := hB.behind b7
  have rx := rx.behind b7
  have ry := ry.behind b7
  have B7 := below_both B6 b7
  clear b7
  go_wp2_with fail
  refine (rsub_num rx ry (by omega) (by omega)).mono ?_
  rintro e w8 ⟨v5, rfl, r5, b8⟩
  have hA := hA.behind b8
  have hB := hB.behind b8
  have rx := rx.behind b8
  have ry := ry.behind b8
  have u4 := u4.behind b8
  have n4 := n4.behind b8
  have B8 := below_both B7 b8
  clear b8
  go_wp2_with fail
  refine (limbs_num r5 (by omega)).mono ?_
  rintro e w9 ⟨v6, rfl, n6, b9⟩
  have hA := hA.behind b9
  have hB := hB.behind b9
  have rx := rx.behind b9
  have ry := ry.behind b9
  have u4 := u4.behind b9
  have n4 := n4.behind b9
  have B9 := below_both B8 b9
  clear b9
  go_wp2_with fail
  refine (same_new n4 n6 rfl u4.lt (by omega)).mono ?_
  rintro e w10 ⟨rfl, b10⟩
  have hA := hA.behind b10
  have hB := hB.behind b10
  have rx := rx.behind b10
  have ry := ry.behind b10
  have B10 := below_both B9 b10
  clear b10
  go_wp2_with fail
  refine (mul_num hA hB (by omega)).mono ?_
  rintro e w11 ⟨v7, rfl, u7, n7, b11⟩
  have hA := hA.behind b11
  have hB := hB.behind b11
  have rx := rx.behind b11
  have ry := ry.behind b11
  have B11 := below_both B10 b11
  clear b11
  go_wp2_with fail
  refine (rmul_num rx ry (by omega) (by omega)).mono ?_
  rintro e w12 ⟨v8, rfl, r8, b12⟩
  have hA := hA.behind b12
  have hB := hB.behind b12
  have rx := rx.behind b12
  have ry := ry.behind b12
  have u7 := u7.behind b12
  have n7 := n7.behind b12
  have B12 := below_both B11 b12
  clear b12
  go_wp2_with fail
  refine (limbs_num r8 (by omega)).mono ?_
  rintro e w13 ⟨v9, rfl, n9, b13⟩
  have hA := hA.behind b13
  have hB := hB.behind b13
  have rx := rx.behind b13
  have ry := ry.behind b13
  have u7 := u7.behind b13
  have n7 := n7.behind b13
  have B13 := below_both B12 b13
  clear b13
  go_wp2_with fail
  refine (same_new n7 n9 rfl u7.lt (by omega)).mono ?_
  rintro e w14 ⟨rfl, b14⟩
  have hA := hA.behind b14
  have hB := hB.behind b14
  have rx := rx.behind b14
  have ry := ry.behind b14
  have B14 := below_both B13 b14
  clear b14
  go_wp2_with fail
  refine (cmp_num hA hB (by omega) (by omega)).mono ?_
  rintro e w15 ⟨rfl, b15⟩
  have hA := hA.behind b15
  have rx := rx.behind b15
  have ry := ry.behind b15
  have B15 := below_both B14 b15
  clear b15
  go_wp2_with fail
  refine (rcmp_num rx ry (by omega) (by omega)).mono ?_
  rintro e w16 ⟨rfl, b16⟩
  have hA := hA.behind b16
  have rx := rx.behind b16
  have B16 := below_both B15 b16
  clear b16
  go_wp2_with fail
  refine (bits_num hA (by omega)).mono ?_
  rintro e w17 ⟨rfl, b17⟩
  have hA := hA.behind b17
  have rx := rx.behind b17
  have B17 := below_both B16 b17
  clear b17
  go_wp2_with fail
  refine (rbits_num rx (by omega)).mono ?_
  rintro e w18 ⟨rfl, b18⟩
  have hA := hA.behind b18
  have rx := rx.behind b18
  have B18 := below_both B17 b18
  clear b18
  go_wp2_with fail
  refine (even_num hA).mono ?_
  rintro e w19 ⟨rfl, b19⟩
  have hA := hA.behind b19
  have rx := rx.behind b19
  have B19 := below_both B18 b19
  clear b19
  rw [show decide (A % 2 = 0) = false by rw [hp.out]; rfl]
  go_wp2_with fail
  refine (norm_num hA (by omega)).mono ?_
  rintro e w20 ⟨va1, rfl, ua, na, b20⟩
  have rx := rx.behind b20
  have B20 := below_both B19 b20
  clear b20
  go_wp2_with fail
  refine (limbs_num rx (by omega)).mono ?_
  rintro e w21 ⟨vb1, rfl, nb, b21⟩
  have ua := ua.behind b21
  have na := na.behind b21
  have B21 := below_both B20 b21
  clear b21
  go_wp2_with fail
  refine (same_new na nb rfl ua.lt (by omega)).mono ?_
  rintro e w22 ⟨rfl, b22⟩
  have B22 := below_both B21 b22
  clear b22
  go_wp2_with fail
  refine (alive_calls _).mono ?_
  rintro e w23 ⟨rfl, b23⟩
  have B23 := below_both B22 b23
  clear b23
  go_wp2
  go_ret
  exact ⟨rfl, B23⟩
theorem tells_walk (va vb : Value) (xs ys : List Nat) (w : World) (hA : Arg w va xs) (hB : Arg w vb ys) (hxl : xs.length ≤ 1048576) (hyl : ys.length ≤ 1048576) (hx : Low 18446744073709551616 xs) (hy : Low 18446744073709551616 ys) :
    Calls Try.prog 3 #[va, vb] w fun e W' => e = .returned (.bool true) ∧ Below w.heap.size w W' := by
  have hA' : Num w va _ 1048576 := ⟨xs, hA, hx, rfl, hxl⟩
  have hB' : Num w vb _ 1048576 := ⟨ys, hB, hy, rfl, hyl⟩
  by_cases h0 : val 18446744073709551616 xs = 0
  · exact tells_zero va vb _ _ w (Lib.hid h0) hA' hB'
  · by_cases hp : val 18446744073709551616 xs % 2 = 0
    · exact tells_even va vb _ _ w (Lib.hid h0) (Lib.hid hp) hA' hB'
    · exact tells_odd va vb _ _ w (Lib.hid h0) (Lib.hid (by omega)) hA' hB'
end Go.Proofs.Ytfhlbeglobbmpaa
