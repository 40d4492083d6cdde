/- vernierlaw02.NatdivGcd: true, whatever the lists. -/
import Derived.Test.YtppbifijgkcpjaaDoorGcdWalk
namespace Go.Proofs.YtppbifijgkcpjaaDoor
open Go.RowKit Go.Shelf

theorem bits_pos {va : Value} {N i d : Nat} {w : World} (hA : Num w va N i) (hi : i ≤ 17592186044416) (h : nbits N = d) :
    Calls Tryd.prog 6 #[va] w fun e W' => e = .returned (.int .i64 (d : Int)) ∧ Below w.heap.size w W' := by
  subst h
  exact bits_num hA hi
theorem bits_nil {va : Value} {i : Nat} {w : World} (hA : Num w va 0 i) (hi : i ≤ 17592186044416) :
    Calls Tryd.prog 6 #[va] w fun e W' => e = .returned (.int .i64 0) ∧ Below w.heap.size w W' := bits_num hA hi
theorem even_no {va : Value} {N i : Nat} {w : World} (hA : Num w va N i) (h : N % 2 = 1) :
    Calls Tryd.prog 13 #[va] w fun e W' => e = .returned (.bool false) ∧ Below w.heap.size w W' := by
  have := even_num hA
  rwa [decide_eq_false (show ¬ N % 2 = 0 by omega)] at this
theorem gcd_is {w : World} {va vb : Value} {M N i G : Nat} (hA : Num w va M i) (hB : Num w vb N i) (hi : i ≤ 4398046511104) (hT : TabOk w) (h : Nat.gcd M N = G) :
    Calls Tryd.prog 5 #[va, vb] w fun e W' => ∃ v, e = .returned v ∧ New w.heap.size W' v (digs 18446744073709551616 G) ∧ Below w.heap.size w W' := by
  subst h
  exact gcd_calls hA hB hi hT
theorem half_lt {M z K : Nat} (h : M < K) : M / 2 ^ z < K := Nat.lt_of_le_of_lt (Nat.div_le_self _ _) h
theorem quo_lt {M G K : Nat} (h : M < K) : M / G < K := Nat.lt_of_le_of_lt (Nat.div_le_self _ _) h
theorem back_eq {M z : Nat} (h : ZOf M z) : M / 2 ^ z * 2 ^ z = M := by
  rcases h with ⟨rfl, rfl⟩ | ⟨m, rfl⟩
  · rfl
  · rw [Nat.mul_div_cancel_left _ (Nat.pow_pos (by decide)), Nat.mul_comm]
theorem back_lt {M z K : Nat} (h : ZOf M z) (hK : M < K) : M / 2 ^ z * 2 ^ z < K := by rw [back_eq h]; exact hK
theorem half_odd {M z : Nat} (h : ZOf M z) (h0 : M ≠ 0) : M / 2 ^ z % 2 = 1 := by
  obtain ⟨m, rfl⟩ := h.is h0
  rw [Nat.mul_div_cancel_left _ (Nat.pow_pos (by decide))]
  omega
set_option maxRecDepth 100000 in
set_option maxHeartbeats 4000000 in
theorem ndgcd_long (a b : Option Addr) (m n c c' : Nat) (w : World) (h : 12 < m ∨ m ≤ 12 ∧ 12 < n) :
    Calls Tryd.prog 3 #[.slice a m c, .slice b n c'] w fun e W' => e = .returned (.bool true) ∧ Below w.heap.size w W' := by
  rcases h with h | ⟨h, h2⟩
  · have hm' : (12 : Int) < (m : Int) := by omega
    go_enter Tryd.func3, Tryd.ntmps3
    go_wp2_with fail
    refine (ndalive w).mono ?_
    rintro e w1 ⟨rfl, b1⟩
    go_wp2
    go_ret
    exact ⟨rfl, b1⟩
  · have hm' : (m : Int) ≤ 12 := by omega
    have hn' : (12 : Int) < (n : Int) := by omega
    go_enter Tryd.func3, Tryd.ntmps3
    go_wp2_with fail
    refine (ndalive w).mono ?_
    rintro e w1 ⟨rfl, b1⟩
    go_wp2
    go_ret
    exact ⟨rfl, b1⟩
set_option maxRecDepth 100000 in
set_option maxHeartbeats 4000000 in
theorem ndgcd_zero (a b : Option Addr) (m n c c' : Nat) (w : World) (hA : Num w (.slice a m c) 0 12) (hB : Num w (.slice b n c') 0 12) (hm : m ≤ 12) (hn : n ≤ 12) (hT : TabOk w) :
    Calls Tryd.prog 3 #[.slice a m c, .slice b n c'] w fun e W' => e = .returned (.bool true) ∧ Below w.heap.size w W' := by
  have hm' : (m : Int) ≤ 12 := by omega
  have hn' : (n : Int) ≤ 12 := by omega
  go_enter Tryd.func3, Tryd.ntmps3
  go_wp2_with fail
  refine (ndalive w).mono ?_
  rintro e w1 ⟨rfl, b1⟩
  have hA := hA.behind b1
  have hB := hB.behind b1
  have hT := hT.behind b1
  have B1 := b1
  go_wp2_with fail
  refine (gcd_calls hA hB (by omega) hT).mono ?_
  rintro e w2 ⟨g, rfl, ng, b2⟩
  have hA := hA.behind b2
  have hB := hB.behind b2
  have hT := hT.behind b2
  have B2 := below_both B1 b2
  clear b2
  rw [Nat.gcd_zero_left, digs_zero] at ng
  obtain ⟨ga, gc, rfl, _⟩ := ng.slice
  clear ng
  simp only [List.length_nil] at *
  go_wp2_with fail
  refine (bits_nil hA (by omega)).mono ?_
  rintro e w3 ⟨rfl, b3⟩
  have hA := hA.behind b3
  have hB := hB.behind b3
  have hT := hT.behind b3
  have B3 := below_both B2 b3
  clear b3
  go_wp2_with fail
  refine (bits_nil hB (by omega)).mono ?_
  rintro e w4 ⟨rfl, b4⟩
  have hA := hA.behind b4
  have hB := hB.behind b4
  have hT := hT.behind b4
  have B4 := below_both B3 b4
  clear b4
  go_wp2_with fail
  refine (zeros_num hA (by omega) hT).mono ?_
  rintro e w5 ⟨z, rfl, ⟨hz, hzl⟩, b5⟩
  have hA := hA.behind b5
  have hB := hB.behind b5
  have hT := hT.behind b5
  have B5 := below_both B4 b5
  clear b5
  obtain rfl : z = 0 := by
    rcases hz with ⟨_, h⟩ | ⟨k, h⟩
    · exact h
    · have := Nat.pow_pos (n := z) (show 0 < 2 by decide)
      have := Nat.mul_pos this (show 0 < 2 * k + 1 by omega)
      omega
  go_wp2
  go_ret
  exact ⟨rfl, B5⟩
set_option maxRecDepth 100000 in
set_option maxHeartbeats 4000000 in
theorem ndgcd_left (a b : Option Addr) (m n c c' M N : Nat) (w : World) (hA : Num w (.slice a m c) M 12) (hB : Num w (.slice b n c') N 12) (hm : m ≤ 12) (hn : n ≤ 12) (hT : TabOk w) (hM : M ≠ 0) :
    Calls Tryd.prog 3 #[.slice a m c, .slice b n c'] w fun e W' => e = .returned (.bool true) ∧ Below w.heap.size w W' := by
  have hm' : (m : Int) ≤ 12 := by omega
  have hn' : (n : Int) ≤ 12 := by omega
  have HML := Lib.hid hA.lt
  have HNL := Lib.hid hB.lt
  have HM1 := Lib.hid hM
  obtain ⟨d, HD, hd, hd0, hdz⟩ : ∃ d : Nat, Hid (nbits M = d) ∧ (0 : Int) < (d : Int) ∧ ((d : Int) == 0) = false ∧ 0 < d := by
    have := (nbits_bounds hM).1
    exact ⟨_, Lib.hid rfl, by omega, beq_eq_false_iff_ne.2 (by omega), by omega⟩
  have hg : 0 < Nat.gcd M N := Nat.gcd_pos_of_pos_left _ (Nat.pos_of_ne_zero hM)
  have HG0 : Hid (Nat.gcd M N ≠ 0) := Lib.hid (Nat.ne_of_gt hg)
  have HG : Hid (Nat.gcd M N < 18446744073709551616 ^ 12) := Lib.hid (Nat.lt_of_le_of_lt (Nat.gcd_le_left _ (Nat.pos_of_ne_zero hM)) hA.lt)
  have HM0 : Hid (M % Nat.gcd M N = 0) := Lib.hid (Nat.mod_eq_zero_of_dvd (Nat.gcd_dvd_left _ _))
  have HN0 : Hid (N % Nat.gcd M N = 0) := Lib.hid (Nat.mod_eq_zero_of_dvd (Nat.gcd_dvd_right _ _))
  have HC : Hid (Nat.gcd (M / Nat.gcd M N) (N / Nat.gcd M N) = 1) := Lib.hid (Nat.coprime_div_gcd_div_gcd hg)
  clear hg hM
  generalize hGE : Nat.gcd M N = G at *
  have HE := Lib.hid hGE
  clear hGE
  go_enter Tryd.func3, Tryd.ntmps3
  go_wp2_with fail
  refine (ndalive w).mono ?_
  rintro e w1 ⟨rfl, b1⟩
  have hA := hA.behind b1
  have hB := hB.behind b1
  have hT := hT.behind b1
  have B1 := b1
  go_wp2_with fail
  refine (gcd_is hA hB (by omega) hT HE.out).mono ?_
  rintro e w2 ⟨g, rfl, ng, b2⟩
  have hA := hA.behind b2
  have hB := hB.behind b2
  have hT := hT.behind b2
  have B2 := below_both B1 b2
  clear b2
  go_wp2_with fail
  refine (bits_pos hA (by omega) HD.out).mono ?_
  rintro e w3 ⟨rfl, b3⟩
  have hA := hA.behind b3
  have hB := hB.behind b3
  have hT := hT.behind b3
  have ng := ng.behind b3
  have B3 := below_both B2 b3
  clear b3
  go_wp2_with fail
  refine (divmod_num hA (ng.num HG.out) (by omega) (by omega) HG0.out).mono ?_
  rintro e w4 ⟨p, r, rfl, np, nr, b4⟩
  have hA := hA.behind b4
  have hB := hB.behind b4
  have hT := hT.behind b4
  have ng := ng.behind b4
  have B4 := below_both B3 b4
  clear b4
  go_wp2_with fail
  refine (divmod_num hB (ng.num HG.out) (by omega) (by omega) HG0.out).mono ?_
  rintro e w5 ⟨q, s, rfl, nq, ns, b5⟩
  have hA := hA.behind b5
  have hB := hB.behind b5
  have hT := hT.behind b5
  have np := np.behind b5
  have nr := nr.behind b5
  have B5 := below_both B4 b5
  clear b5
  rw [HM0.out, digs_zero] at nr
  rw [HN0.out, digs_zero] at ns
  obtain ⟨ra, rc, rfl, _⟩ := nr.slice
  obtain ⟨sa, sc, rfl, _⟩ := ns.slice
  clear nr ns
  simp only [List.length_nil] at *
  go_wp2_with fail
  refine (zeros_num hA (by omega) hT).mono ?_
  rintro e w6 ⟨z, rfl, ⟨hz, hzl⟩, b6⟩
  have hA := hA.behind b6
  have hB := hB.behind b6
  have hT := hT.behind b6
  have np := np.behind b6
  have nq := nq.behind b6
  have B6 := below_both B5 b6
  clear b6
  have hz5 : z ≤ 65536 := by omega
  have HZ := Lib.hid hz
  have HZ5 := Lib.hid hz5
  clear hz hz5 hzl
  go_wp2_with fail
  refine (shr_num hA (by omega) HZ5.out).mono ?_
  rintro e w7 ⟨bk, rfl, nb, b7⟩
  have hA := hA.behind b7
  have hB := hB.behind b7
  have hT := hT.behind b7
  have np := np.behind b7
  have nq := nq.behind b7
  have B7 := below_both B6 b7
  clear b7
  go_wp2_with fail
  refine (shl_num (nb.num (half_lt HML.out)) (by omega) HZ5.out).mono ?_
  rintro e w8 ⟨ag, rfl, na, b8⟩
  have hA := hA.behind b8
  have hB := hB.behind b8
  have hT := hT.behind b8
  have np := np.behind b8
  have nq := nq.behind b8
  have nb := nb.behind b8
  have B8 := below_both B7 b8
  clear b8
  go_wp2_with fail
  refine (norm_num hA (by omega)).mono ?_
  rintro e w9 ⟨nm, rfl, un, nn, b9⟩
  have hA := hA.behind b9
  have hB := hB.behind b9
  have hT := hT.behind b9
  have np := np.behind b9
  have nq := nq.behind b9
  have nb := nb.behind b9
  have na := na.behind b9
  have B9 := below_both B8 b9
  clear b9
  go_wp2_with fail
  refine (same_new na nn (back_eq HZ.out) (back_lt HZ.out HML.out) (by omega)).mono ?_
  rintro e w10 ⟨rfl, b10⟩
  have hA := hA.behind b10
  have hB := hB.behind b10
  have hT := hT.behind b10
  have np := np.behind b10
  have nq := nq.behind b10
  have nb := nb.behind b10
  have B10 := below_both B9 b10
  clear b10
  go_wp2_with fail
  refine (bits_pos hA (by omega) HD.out).mono ?_
  rintro e w11 ⟨rfl, b11⟩
  have hA := hA.behind b11
  have hB := hB.behind b11
  have hT := hT.behind b11
  have np := np.behind b11
  have nq := nq.behind b11
  have nb := nb.behind b11
  have B11 := below_both B10 b11
  clear b11
  go_wp2_with fail
  refine (even_no (nb.num (half_lt HML.out)) (half_odd HZ.out HM1.out)).mono ?_
  rintro e w12 ⟨rfl, b12⟩
  have hA := hA.behind b12
  have hB := hB.behind b12
  have hT := hT.behind b12
  have np := np.behind b12
  have nq := nq.behind b12
  have B12 := below_both B11 b12
  clear b12
  go_wp2_with fail
  refine (gcd_is (np.num (quo_lt HML.out)) (nq.num (quo_lt HNL.out)) (by omega) hT HC.out).mono ?_
  rintro e w13 ⟨one, rfl, n1, b13⟩
  have hA := hA.behind b13
  have hB := hB.behind b13
  have hT := hT.behind b13
  have B13 := below_both B12 b13
  clear b13
  rw [digs_small (by decide) (by decide) (by decide)] at n1
  obtain ⟨S1, o1, c1, rfl, k1⟩ := n1.word
  clear n1
  go_wp2
  go_ret
  exact ⟨rfl, B13⟩
set_option maxRecDepth 100000 in
set_option maxHeartbeats 4000000 in
theorem ndgcd_right (a b : Option Addr) (m n c c' N : Nat) (w : World) (hA : Num w (.slice a m c) 0 12) (hB : Num w (.slice b n c') N 12) (hm : m ≤ 12) (hn : n ≤ 12) (hT : TabOk w) (hN : N ≠ 0) :
    Calls Tryd.prog 3 #[.slice a m c, .slice b n c'] w fun e W' => e = .returned (.bool true) ∧ Below w.heap.size w W' := by
  have hm' : (m : Int) ≤ 12 := by omega
  have hn' : (n : Int) ≤ 12 := by omega
  have HML := Lib.hid hA.lt
  have HNL := Lib.hid hB.lt

  obtain ⟨d, HD, hd, hd0, hdz⟩ : ∃ d : Nat, Hid (nbits N = d) ∧ (0 : Int) < (d : Int) ∧ ((d : Int) == 0) = false ∧ 0 < d := by
    have := (nbits_bounds hN).1
    exact ⟨_, Lib.hid rfl, by omega, beq_eq_false_iff_ne.2 (by omega), by omega⟩
  have hg : 0 < Nat.gcd 0 N := Nat.gcd_pos_of_pos_right _ (Nat.pos_of_ne_zero hN)
  have HG0 : Hid (Nat.gcd 0 N ≠ 0) := Lib.hid (Nat.ne_of_gt hg)
  have HG : Hid (Nat.gcd 0 N < 18446744073709551616 ^ 12) := Lib.hid (Nat.lt_of_le_of_lt (Nat.gcd_le_right _ (Nat.pos_of_ne_zero hN)) hB.lt)
  have HM0 : Hid (0 % Nat.gcd 0 N = 0) := Lib.hid (Nat.mod_eq_zero_of_dvd (Nat.gcd_dvd_left _ _))
  have HN0 : Hid (N % Nat.gcd 0 N = 0) := Lib.hid (Nat.mod_eq_zero_of_dvd (Nat.gcd_dvd_right _ _))
  have HC : Hid (Nat.gcd (0 / Nat.gcd 0 N) (N / Nat.gcd 0 N) = 1) := Lib.hid (Nat.coprime_div_gcd_div_gcd hg)
  clear hg hN
  generalize hGE : Nat.gcd 0 N = G at *
  have HE := Lib.hid hGE
  clear hGE
  go_enter Tryd.func3, Tryd.ntmps3
  go_wp2_with fail
  refine (ndalive w).mono ?_
  rintro e w1 ⟨rfl, b1⟩
  have hA := hA.behind b1
  have hB := hB.behind b1
  have hT := hT.behind b1
  have B1 := b1
  go_wp2_with fail
  refine (gcd_is hA hB (by omega) hT HE.out).mono ?_
  rintro e w2 ⟨g, rfl, ng, b2⟩
  have hA := hA.behind b2
  have hB := hB.behind b2
  have hT := hT.behind b2
  have B2 := below_both B1 b2
  clear b2
  go_wp2_with fail
  refine (bits_nil hA (by omega)).mono ?_
  rintro e w3 ⟨rfl, b3⟩
  have hA := hA.behind b3
  have hB := hB.behind b3
  have hT := hT.behind b3
  have ng := ng.behind b3
  have B3 := below_both B2 b3
  clear b3
  go_wp2_with fail
  refine (bits_pos hB (by omega) HD.out).mono ?_
  rintro e w4 ⟨rfl, b4⟩
  have hA := hA.behind b4
  have hB := hB.behind b4
  have hT := hT.behind b4
  have ng := ng.behind b4
  have B4 := below_both B3 b4
  clear b4
  go_wp2_with fail
  refine (divmod_num hA (ng.num HG.out) (by omega) (by omega) HG0.out).mono ?_
  rintro e w5 ⟨p, r, rfl, np, nr, b5⟩
  have hA := hA.behind b5
  have hB := hB.behind b5
  have hT := hT.behind b5
  have ng := ng.behind b5
  have B5 := below_both B4 b5
  clear b5
  go_wp2_with fail
  refine (divmod_num hB (ng.num HG.out) (by omega) (by omega) HG0.out).mono ?_
  rintro e w6 ⟨q, s, rfl, nq, ns, b6⟩
  have hA := hA.behind b6
  have hB := hB.behind b6
  have hT := hT.behind b6
  have np := np.behind b6
  have nr := nr.behind b6
  have B6 := below_both B5 b6
  clear b6
  rw [HM0.out, digs_zero] at nr
  rw [HN0.out, digs_zero] at ns
  obtain ⟨ra, rc, rfl, _⟩ := nr.slice
  obtain ⟨sa, sc, rfl, _⟩ := ns.slice
  clear nr ns
  simp only [List.length_nil] at *
  go_wp2_with fail
  refine (zeros_num hA (by omega) hT).mono ?_
  rintro e w7 ⟨z, rfl, ⟨hz, hzl⟩, b7⟩
  have hA := hA.behind b7
  have hB := hB.behind b7
  have hT := hT.behind b7
  have np := np.behind b7
  have nq := nq.behind b7
  have B7 := below_both B6 b7
  clear b7
  have hz5 : z ≤ 65536 := by omega
  have HZ := Lib.hid hz
  have HZ5 := Lib.hid hz5
  clear hz hz5 hzl
  go_wp2_with fail
  refine (shr_num hA (by omega) HZ5.out).mono ?_
  rintro e w8 ⟨bk, rfl, nb, b8⟩
  have hA := hA.behind b8
  have hB := hB.behind b8
  have hT := hT.behind b8
  have np := np.behind b8
  have nq := nq.behind b8
  have B8 := below_both B7 b8
  clear b8
  go_wp2_with fail
  refine (shl_num (nb.num (half_lt HML.out)) (by omega) HZ5.out).mono ?_
  rintro e w9 ⟨ag, rfl, na, b9⟩
  have hA := hA.behind b9
  have hB := hB.behind b9
  have hT := hT.behind b9
  have np := np.behind b9
  have nq := nq.behind b9
  have nb := nb.behind b9
  have B9 := below_both B8 b9
  clear b9
  go_wp2_with fail
  refine (norm_num hA (by omega)).mono ?_
  rintro e w10 ⟨nm, rfl, un, nn, b10⟩
  have hA := hA.behind b10
  have hB := hB.behind b10
  have hT := hT.behind b10
  have np := np.behind b10
  have nq := nq.behind b10
  have nb := nb.behind b10
  have na := na.behind b10
  have B10 := below_both B9 b10
  clear b10
  go_wp2_with fail
  refine (same_new na nn (back_eq HZ.out) (back_lt HZ.out HML.out) (by omega)).mono ?_
  rintro e w11 ⟨rfl, b11⟩
  have hA := hA.behind b11
  have hB := hB.behind b11
  have hT := hT.behind b11
  have np := np.behind b11
  have nq := nq.behind b11
  have nb := nb.behind b11
  have B11 := below_both B10 b11
  clear b11
  go_wp2_with fail
  refine (bits_nil hA (by omega)).mono ?_
  rintro e w12 ⟨rfl, b12⟩
  have hA := hA.behind b12
  have hB := hB.behind b12
  have hT := hT.behind b12
  have np := np.behind b12
  have nq := nq.behind b12
  have B12 := below_both B11 b12
  clear b12
  go_wp2_with fail
  refine (gcd_is (np.num (quo_lt HML.out)) (nq.num (quo_lt HNL.out)) (by omega) hT HC.out).mono ?_
  rintro e w13 ⟨one, rfl, n1, b13⟩
  have hA := hA.behind b13
  have hB := hB.behind b13
  have hT := hT.behind b13
  have B13 := below_both B12 b13
  clear b13
  rw [digs_small (by decide) (by decide) (by decide)] at n1
  obtain ⟨S1, o1, c1, rfl, k1⟩ := n1.word
  clear n1
  go_wp2
  go_ret
  exact ⟨rfl, B13⟩
theorem ndgcd_walk (va : Value) (xs : List Nat) (vb : Value) (ys : List Nat) (w : World) (hT : TabOk w) (hA : Arg w va xs) (_hxl : xs.length ≤ 17592186043904) (hx : Low 18446744073709551616 xs) (hB : Arg w vb ys) (_hyl : ys.length ≤ 17592186043904) (hy : Low 18446744073709551616 ys) :
    Calls Tryd.prog 3 #[va, vb] w fun e W' => e = .returned (.bool true) ∧ Below w.heap.size w W' := by
  obtain ⟨a, c, rfl⟩ := hA.slice
  obtain ⟨b, c', rfl⟩ := hB.slice
  by_cases h : xs.length ≤ 12 ∧ ys.length ≤ 12
  · have nA : Num w _ (val 18446744073709551616 xs) 12 := ⟨xs, hA, hx, rfl, h.1⟩
    have nB : Num w _ (val 18446744073709551616 ys) 12 := ⟨ys, hB, hy, rfl, h.2⟩
    by_cases h1 : val 18446744073709551616 xs = 0
    · rw [h1] at nA
      by_cases h2 : val 18446744073709551616 ys = 0
      · rw [h2] at nB
        exact ndgcd_zero _ _ _ _ _ _ w nA nB h.1 h.2 hT
      · exact ndgcd_right _ _ _ _ _ _ _ w nA nB h.1 h.2 hT h2
    · exact ndgcd_left _ _ _ _ _ _ _ _ w nA nB h.1 h.2 hT h1
  · exact ndgcd_long _ _ _ _ _ _ w (by omega)
end Go.Proofs.YtppbifijgkcpjaaDoor
