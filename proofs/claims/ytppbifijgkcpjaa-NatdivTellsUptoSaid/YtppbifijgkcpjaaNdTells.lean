/- vernierlaw02.NatdivTells: true, whatever the two lists and the int. -/
import Derived.Test.YtppbifijgkcpjaaRefDiv
import Derived.Test.YtppbifijgkcpjaaSqrt
namespace Go.Proofs.Ytppbifijgkcpjaa
open Go.RowKit Go.Shelf

theorem shl_bad {w : World} {a : Option Addr} {l cap : Nat} {n : Int} (h : n < 0 ∨ 65536 < n) :
    Calls Try.prog 31 #[.slice a l cap, .int .i64 n] w fun e W' => e = .returned (.tuple #[.slice none 0 0, .int .i64 4]) ∧ Below w.heap.size w W' := by
  rcases h with h | h
  · go_enter Try.func31, Try.ntmps31
    go_wp2
    go_ret2
    exact ⟨rfl, Below.refl _ _⟩
  · have h0 : ¬ n < 0 := by omega
    go_enter Try.func31, Try.ntmps31
    go_wp2
    go_ret2
    exact ⟨rfl, Below.refl _ _⟩
theorem shr_bad {w : World} {a : Option Addr} {l cap : Nat} {n : Int} (h : n < 0 ∨ 65536 < n) :
    Calls Try.prog 32 #[.slice a l cap, .int .i64 n] w fun e W' => e = .returned (.tuple #[.slice none 0 0, .int .i64 4]) ∧ Below w.heap.size w W' := by
  rcases h with h | h
  · go_enter Try.func32, Try.ntmps32
    go_wp2
    go_ret2
    exact ⟨rfl, Below.refl _ _⟩
  · have h0 : ¬ n < 0 := by omega
    go_enter Try.func32, Try.ntmps32
    go_wp2
    go_ret2
    exact ⟨rfl, Below.refl _ _⟩
theorem limbs_lt {X m i : Nat} (hX : X < 18446744073709551616 ^ i) (hm : m ≤ 65536) : X * 2 ^ m < 18446744073709551616 ^ (i + 1024) := by
  have e : 18446744073709551616 ^ (i + 1024) = 2 ^ (64 * (i + 1024)) := by rw [show 18446744073709551616 = 2 ^ 64 from rfl, ← Nat.pow_mul]
  have e2 : 18446744073709551616 ^ i = 2 ^ (64 * i) := by rw [show 18446744073709551616 = 2 ^ 64 from rfl, ← Nat.pow_mul]
  rw [e]
  rw [e2] at hX
  have h1 : 2 ^ (64 * i) * 2 ^ m ≤ 2 ^ (64 * (i + 1024)) := by
    rw [← Nat.pow_add]
    exact Nat.pow_le_pow_right (by decide) (by omega)
  exact Nat.lt_of_lt_of_le (Nat.mul_lt_mul_of_pos_right hX (Nat.pow_pos (by decide))) h1
set_option maxRecDepth 100000 in
set_option maxHeartbeats 4000000 in
theorem ndtells_bad1_zero (va vb : Value) (X j i : Nat) (n : Int) (w : World) (hA : Num w va X i) (hB : Num w vb 0 j) (hi : i ≤ 1048576) (hj : j ≤ 1048576) (hn : n < 0) :
    Calls Try.prog 7 #[va, vb, .int .i64 n] w fun e W' => e = .returned (.bool true) ∧ Below w.heap.size w W' := by
  have hXl := hA.lt
  have HN : Hid (n < 0 ∨ 65536 < n) := Lib.hid (.inl hn)
  have he0 : (((digs 65536 0).length : Int) == 0) = true := by rw [digs_zero]; rfl
  obtain ⟨a1, a2, a3, rfl⟩ := hA.slice
  obtain ⟨c1, c2, c3, rfl⟩ := hB.slice
  go_enter Try.func7, Try.ntmps7
  go_wp2_with fail
  refine (ndalive w).mono ?_
  rintro e w1 ⟨rfl, b1⟩
  have hA := hA.behind b1
  have hB := hB.behind b1
  have B1 := b1
  go_wp2_with fail
  refine (of_num hA (by omega)).mono ?_
  rintro e w2 ⟨vx, rfl, rx, b2⟩
  have hA := hA.behind b2
  have hB := hB.behind b2
  have B2 := below_both B1 b2
  clear b2
  go_wp2_with fail
  refine (of_num hB (by omega)).mono ?_
  rintro e w3 ⟨vy, rfl, ry, b3⟩
  have hA := hA.behind b3
  have hB := hB.behind b3
  have rx := rx.behind b3
  have B3 := below_both B2 b3
  clear b3
  obtain ⟨xa, xc, rfl, -⟩ := rx.slice
  obtain ⟨ya, yc, rfl, -⟩ := ry.slice
  go_wp2_with fail
  refine (shl_bad HN.out).mono ?_
  rintro e w4 ⟨rfl, b4⟩
  have hA := hA.behind b4
  have hB := hB.behind b4
  have B4 := below_both B3 b4
  clear b4
  go_wp2_with fail
  refine (shr_bad HN.out).mono ?_
  rintro e w5 ⟨rfl, b5⟩
  have hA := hA.behind b5
  have hB := hB.behind b5
  have B5 := below_both B4 b5
  clear b5
  go_wp2_with fail
  refine (divmod_zero hA hB (by omega) (by omega)).mono ?_
  rintro e w6 ⟨rfl, b6⟩
  have B6 := below_both B5 b6
  clear b6
  go_wp2
  go_ret
  exact ⟨rfl, B6⟩
set_option maxRecDepth 100000 in
set_option maxHeartbeats 4000000 in
theorem ndtells_bad1_long (va vb : Value) (X Y j i : Nat) (n : Int) (w : World) (hA : Num w va X i) (hB : Num w vb Y j) (hi : i ≤ 1048576) (hj : j ≤ 1048576) (hn : n < 0) (hY : Y ≠ 0) (hx : 60 < (digs 65536 X).length) :
    Calls Try.prog 7 #[va, vb, .int .i64 n] w fun e W' => e = .returned (.bool true) ∧ Below w.heap.size w W' := by
  have hXl := hA.lt
  have HN : Hid (n < 0 ∨ 65536 < n) := Lib.hid (.inl hn)
  have HY := Lib.hid hY
  have hpos : 0 < (digs 65536 Y).length := by rw [digs_pos (by decide) hY]; simp
  have he0 : (((digs 65536 Y).length : Int) == 0) = false := beq_eq_false_iff_ne.2 (by omega)
  have hx' : (60 : Int) < ((digs 65536 X).length : Int) := by omega
  obtain ⟨a1, a2, a3, rfl⟩ := hA.slice
  obtain ⟨c1, c2, c3, rfl⟩ := hB.slice
  go_enter Try.func7, Try.ntmps7
  go_wp2_with fail
  refine (ndalive w).mono ?_
  rintro e w1 ⟨rfl, b1⟩
  have hA := hA.behind b1
  have hB := hB.behind b1
  have B1 := b1
  go_wp2_with fail
  refine (of_num hA (by omega)).mono ?_
  rintro e w2 ⟨vx, rfl, rx, b2⟩
  have hA := hA.behind b2
  have hB := hB.behind b2
  have B2 := below_both B1 b2
  clear b2
  go_wp2_with fail
  refine (of_num hB (by omega)).mono ?_
  rintro e w3 ⟨vy, rfl, ry, b3⟩
  have hA := hA.behind b3
  have hB := hB.behind b3
  have rx := rx.behind b3
  have B3 := below_both B2 b3
  clear b3
  obtain ⟨xa, xc, rfl, -⟩ := rx.slice
  obtain ⟨ya, yc, rfl, -⟩ := ry.slice
  go_wp2_with fail
  refine (shl_bad HN.out).mono ?_
  rintro e w4 ⟨rfl, b4⟩
  have hA := hA.behind b4
  have hB := hB.behind b4
  have B4 := below_both B3 b4
  clear b4
  go_wp2_with fail
  refine (shr_bad HN.out).mono ?_
  rintro e w5 ⟨rfl, b5⟩
  have hA := hA.behind b5
  have hB := hB.behind b5
  have B5 := below_both B4 b5
  clear b5
  go_wp2_with fail
  refine (divmod_num hA hB (by omega) (by omega) HY.out).mono ?_
  rintro e w6 ⟨q, r, rfl, nq, nr, b6⟩
  have B6 := below_both B5 b6
  clear b6
  go_wp2
  go_ret
  exact ⟨rfl, B6⟩
set_option maxRecDepth 100000 in
set_option maxHeartbeats 4000000 in
theorem ndtells_bad1_num (va vb : Value) (X Y j i : Nat) (n : Int) (w : World) (hA : Num w va X i) (hB : Num w vb Y j) (hi : i ≤ 1048576) (hj : j ≤ 1048576) (hn : n < 0) (hY : Y ≠ 0) (hx : (digs 65536 X).length ≤ 60) :
    Calls Try.prog 7 #[va, vb, .int .i64 n] w fun e W' => e = .returned (.bool true) ∧ Below w.heap.size w W' := by
  have hXl := hA.lt
  have HN : Hid (n < 0 ∨ 65536 < n) := Lib.hid (.inl hn)
  have HY := Lib.hid hY
  have hpos : 0 < (digs 65536 Y).length := by rw [digs_pos (by decide) hY]; simp
  have he0 : (((digs 65536 Y).length : Int) == 0) = false := beq_eq_false_iff_ne.2 (by omega)
  have hx' : decide ((60 : Int) < ((digs 65536 X).length : Int)) = false := decide_eq_false (by omega)
  have hx2 : decide (60 < (digs 65536 X).length) = false := decide_eq_false (by omega)
  have HX : Hid (X < 65536 ^ 60) := Lib.hid (by
    have h1 := val_lt (digs_low (B := 65536) (by decide) X) (by decide)
    rw [val_digs (by decide)] at h1
    exact Nat.lt_of_lt_of_le h1 (Nat.pow_le_pow_right (by decide) hx))
  have HY2 : Hid (0 < Y) := Lib.hid (Nat.pos_of_ne_zero hY)
  have HQ : Hid (X / Y < 18446744073709551616 ^ i) := Lib.hid (Nat.lt_of_le_of_lt (Nat.div_le_self _ _) hXl)
  have HR : Hid (X % Y < 18446744073709551616 ^ i) := Lib.hid (Nat.lt_of_le_of_lt (Nat.mod_le _ _) hXl)
  clear hx
  obtain ⟨a1, a2, a3, rfl⟩ := hA.slice
  obtain ⟨c1, c2, c3, rfl⟩ := hB.slice
  go_enter Try.func7, Try.ntmps7
  go_wp2_with fail
  refine (ndalive w).mono ?_
  rintro e w1 ⟨rfl, b1⟩
  have hA := hA.behind b1
  have hB := hB.behind b1
  have B1 := b1
  go_wp2_with fail
  refine (of_num hA (by omega)).mono ?_
  rintro e w2 ⟨vx, rfl, rx, b2⟩
  have hA := hA.behind b2
  have hB := hB.behind b2
  have B2 := below_both B1 b2
  clear b2
  go_wp2_with fail
  refine (of_num hB (by omega)).mono ?_
  rintro e w3 ⟨vy, rfl, ry, b3⟩
  have hA := hA.behind b3
  have hB := hB.behind b3
  have rx := rx.behind b3
  have B3 := below_both B2 b3
  clear b3
  obtain ⟨xa, xc, rfl, -⟩ := rx.slice
  obtain ⟨ya, yc, rfl, -⟩ := ry.slice
  go_wp2_with fail
  refine (shl_bad HN.out).mono ?_
  rintro e w4 ⟨rfl, b4⟩
  have hA := hA.behind b4
  have hB := hB.behind b4
  have rx := rx.behind b4
  have ry := ry.behind b4
  have B4 := below_both B3 b4
  clear b4
  go_wp2_with fail
  refine (shr_bad HN.out).mono ?_
  rintro e w5 ⟨rfl, b5⟩
  have hA := hA.behind b5
  have hB := hB.behind b5
  have rx := rx.behind b5
  have ry := ry.behind b5
  have B5 := below_both B4 b5
  clear b5
  go_wp2_with fail
  refine (divmod_num hA hB (by omega) (by omega) HY.out).mono ?_
  rintro e w6 ⟨q, r, rfl, nq, nr, b6⟩
  have rx := rx.behind b6
  have ry := ry.behind b6
  have B6 := below_both B5 b6
  clear b6
  go_wp2_with fail
  refine (rdiv_num (rx.re HX.out) ry (by omega) HY2.out).mono ?_
  rintro e w7 ⟨v5, v6, rfl, r5, r6, b7⟩
  have nq := nq.behind b7
  have nr := nr.behind b7
  have B7 := below_both B6 b7
  clear b7
  go_wp2_with fail
  refine (limbs_num r5 (by omega)).mono ?_
  rintro e w8 ⟨v7, rfl, n7, b8⟩
  have nq := nq.behind b8
  have nr := nr.behind b8
  have r6 := r6.behind b8
  have B8 := below_both B7 b8
  clear b8
  go_wp2_with fail
  refine (same_new (K := i) nq n7 rfl HQ.out (by omega)).mono ?_
  rintro e w9 ⟨rfl, b9⟩
  have nr := nr.behind b9
  have r6 := r6.behind b9
  have B9 := below_both B8 b9
  clear b9
  go_wp2_with fail
  refine (limbs_num r6 (by omega)).mono ?_
  rintro e w10 ⟨v8, rfl, n8, b10⟩
  have nr := nr.behind b10
  have B10 := below_both B9 b10
  clear b10
  go_wp2_with fail
  refine (same_new (K := i) nr n8 rfl HR.out (by omega)).mono ?_
  rintro e w11 ⟨rfl, b11⟩
  have B11 := below_both B10 b11
  clear b11
  go_wp2
  go_ret
  exact ⟨rfl, B11⟩
set_option maxRecDepth 100000 in
set_option maxHeartbeats 4000000 in
theorem ndtells_bad2_zero (va vb : Value) (X j i : Nat) (n : Int) (w : World) (hA : Num w va X i) (hB : Num w vb 0 j) (hi : i ≤ 1048576) (hj : j ≤ 1048576) (hn : 65536 < n) :
    Calls Try.prog 7 #[va, vb, .int .i64 n] w fun e W' => e = .returned (.bool true) ∧ Below w.heap.size w W' := by
  have hXl := hA.lt
  have HN : Hid (n < 0 ∨ 65536 < n) := Lib.hid (.inr hn)
  have hn0 : decide (n < 0) = false := decide_eq_false (by omega)
  have hn1 : decide (65536 < n) = true := decide_eq_true hn
  clear hn
  have he0 : (((digs 65536 0).length : Int) == 0) = true := by rw [digs_zero]; rfl
  obtain ⟨a1, a2, a3, rfl⟩ := hA.slice
  obtain ⟨c1, c2, c3, rfl⟩ := hB.slice
  go_enter Try.func7, Try.ntmps7
  go_wp2_with fail
  refine (ndalive w).mono ?_
  rintro e w1 ⟨rfl, b1⟩
  have hA := hA.behind b1
  have hB := hB.behind b1
  have B1 := b1
  go_wp2_with fail
  refine (of_num hA (by omega)).mono ?_
  rintro e w2 ⟨vx, rfl, rx, b2⟩
  have hA := hA.behind b2
  have hB := hB.behind b2
  have B2 := below_both B1 b2
  clear b2
  go_wp2_with fail
  refine (of_num hB (by omega)).mono ?_
  rintro e w3 ⟨vy, rfl, ry, b3⟩
  have hA := hA.behind b3
  have hB := hB.behind b3
  have rx := rx.behind b3
  have B3 := below_both B2 b3
  clear b3
  obtain ⟨xa, xc, rfl, -⟩ := rx.slice
  obtain ⟨ya, yc, rfl, -⟩ := ry.slice
  go_wp2_with fail
  refine (shl_bad HN.out).mono ?_
  rintro e w4 ⟨rfl, b4⟩
  have hA := hA.behind b4
  have hB := hB.behind b4
  have B4 := below_both B3 b4
  clear b4
  go_wp2_with fail
  refine (shr_bad HN.out).mono ?_
  rintro e w5 ⟨rfl, b5⟩
  have hA := hA.behind b5
  have hB := hB.behind b5
  have B5 := below_both B4 b5
  clear b5
  go_wp2_with fail
  refine (divmod_zero hA hB (by omega) (by omega)).mono ?_
  rintro e w6 ⟨rfl, b6⟩
  have B6 := below_both B5 b6
  clear b6
  go_wp2
  go_ret
  exact ⟨rfl, B6⟩
set_option maxRecDepth 100000 in
set_option maxHeartbeats 4000000 in
theorem ndtells_bad2_long (va vb : Value) (X Y j i : Nat) (n : Int) (w : World) (hA : Num w va X i) (hB : Num w vb Y j) (hi : i ≤ 1048576) (hj : j ≤ 1048576) (hn : 65536 < n) (hY : Y ≠ 0) (hx : 60 < (digs 65536 X).length) :
    Calls Try.prog 7 #[va, vb, .int .i64 n] w fun e W' => e = .returned (.bool true) ∧ Below w.heap.size w W' := by
  have hXl := hA.lt
  have HN : Hid (n < 0 ∨ 65536 < n) := Lib.hid (.inr hn)
  have hn0 : decide (n < 0) = false := decide_eq_false (by omega)
  have hn1 : decide (65536 < n) = true := decide_eq_true hn
  clear hn
  have HY := Lib.hid hY
  have hpos : 0 < (digs 65536 Y).length := by rw [digs_pos (by decide) hY]; simp
  have he0 : (((digs 65536 Y).length : Int) == 0) = false := beq_eq_false_iff_ne.2 (by omega)
  have hx' : (60 : Int) < ((digs 65536 X).length : Int) := by omega
  obtain ⟨a1, a2, a3, rfl⟩ := hA.slice
  obtain ⟨c1, c2, c3, rfl⟩ := hB.slice
  go_enter Try.func7, Try.ntmps7
  go_wp2_with fail
  refine (ndalive w).mono ?_
  rintro e w1 ⟨rfl, b1⟩
  have hA := hA.behind b1
  have hB := hB.behind b1
  have B1 := b1
  go_wp2_with fail
  refine (of_num hA (by omega)).mono ?_
  rintro e w2 ⟨vx, rfl, rx, b2⟩
  have hA := hA.behind b2
  have hB := hB.behind b2
  have B2 := below_both B1 b2
  clear b2
  go_wp2_with fail
  refine (of_num hB (by omega)).mono ?_
  rintro e w3 ⟨vy, rfl, ry, b3⟩
  have hA := hA.behind b3
  have hB := hB.behind b3
  have rx := rx.behind b3
  have B3 := below_both B2 b3
  clear b3
  obtain ⟨xa, xc, rfl, -⟩ := rx.slice
  obtain ⟨ya, yc, rfl, -⟩ := ry.slice
  go_wp2_with fail
  refine (shl_bad HN.out).mono ?_
  rintro e w4 ⟨rfl, b4⟩
  have hA := hA.behind b4
  have hB := hB.behind b4
  have B4 := below_both B3 b4
  clear b4
  go_wp2_with fail
  refine (shr_bad HN.out).mono ?_
  rintro e w5 ⟨rfl, b5⟩
  have hA := hA.behind b5
  have hB := hB.behind b5
  have B5 := below_both B4 b5
  clear b5
  go_wp2_with fail
  refine (divmod_num hA hB (by omega) (by omega) HY.out).mono ?_
  rintro e w6 ⟨q, r, rfl, nq, nr, b6⟩
  have B6 := below_both B5 b6
  clear b6
  go_wp2
  go_ret
  exact ⟨rfl, B6⟩
set_option maxRecDepth 100000 in
set_option maxHeartbeats 4000000 in
theorem ndtells_bad2_num (va vb : Value) (X Y j i : Nat) (n : Int) (w : World) (hA : Num w va X i) (hB : Num w vb Y j) (hi : i ≤ 1048576) (hj : j ≤ 1048576) (hn : 65536 < n) (hY : Y ≠ 0) (hx : (digs 65536 X).length ≤ 60) :
    Calls Try.prog 7 #[va, vb, .int .i64 n] w fun e W' => e = .returned (.bool true) ∧ Below w.heap.size w W' := by
  have hXl := hA.lt
  have HN : Hid (n < 0 ∨ 65536 < n) := Lib.hid (.inr hn)
  have hn0 : decide (n < 0) = false := decide_eq_false (by omega)
  have hn1 : decide (65536 < n) = true := decide_eq_true hn
  clear hn
  have HY := Lib.hid hY
  have hpos : 0 < (digs 65536 Y).length := by rw [digs_pos (by decide) hY]; simp
  have he0 : (((digs 65536 Y).length : Int) == 0) = false := beq_eq_false_iff_ne.2 (by omega)
  have hx' : decide ((60 : Int) < ((digs 65536 X).length : Int)) = false := decide_eq_false (by omega)
  have hx2 : decide (60 < (digs 65536 X).length) = false := decide_eq_false (by omega)
  have HX : Hid (X < 65536 ^ 60) := Lib.hid (by
    have h1 := val_lt (digs_low (B := 65536) (by decide) X) (by decide)
    rw [val_digs (by decide)] at h1
    exact Nat.lt_of_lt_of_le h1 (Nat.pow_le_pow_right (by decide) hx))
  have HY2 : Hid (0 < Y) := Lib.hid (Nat.pos_of_ne_zero hY)
  have HQ : Hid (X / Y < 18446744073709551616 ^ i) := Lib.hid (Nat.lt_of_le_of_lt (Nat.div_le_self _ _) hXl)
  have HR : Hid (X % Y < 18446744073709551616 ^ i) := Lib.hid (Nat.lt_of_le_of_lt (Nat.mod_le _ _) hXl)
  clear hx
  obtain ⟨a1, a2, a3, rfl⟩ := hA.slice
  obtain ⟨c1, c2, c3, rfl⟩ := hB.slice
  go_enter Try.func7, Try.ntmps7
  go_wp2_with fail
  refine (ndalive w).mono ?_
  rintro e w1 ⟨rfl, b1⟩
  have hA := hA.behind b1
  have hB := hB.behind b1
  have B1 := b1
  go_wp2_with fail
  refine (of_num hA (by omega)).mono ?_
  rintro e w2 ⟨vx, rfl, rx, b2⟩
  have hA := hA.behind b2
  have hB := hB.behind b2
  have B2 := below_both B1 b2
  clear b2
  go_wp2_with fail
  refine (of_num hB (by omega)).mono ?_
  rintro e w3 ⟨vy, rfl, ry, b3⟩
  have hA := hA.behind b3
  have hB := hB.behind b3
  have rx := rx.behind b3
  have B3 := below_both B2 b3
  clear b3
  obtain ⟨xa, xc, rfl, -⟩ := rx.slice
  obtain ⟨ya, yc, rfl, -⟩ := ry.slice
  go_wp2_with fail
  refine (shl_bad HN.out).mono ?_
  rintro e w4 ⟨rfl, b4⟩
  have hA := hA.behind b4
  have hB := hB.behind b4
  have rx := rx.behind b4
  have ry := ry.behind b4
  have B4 := below_both B3 b4
  clear b4
  go_wp2_with fail
  refine (shr_bad HN.out).mono ?_
  rintro e w5 ⟨rfl, b5⟩
  have hA := hA.behind b5
  have hB := hB.behind b5
  have rx := rx.behind b5
  have ry := ry.behind b5
  have B5 := below_both B4 b5
  clear b5
  go_wp2_with fail
  refine (divmod_num hA hB (by omega) (by omega) HY.out).mono ?_
  rintro e w6 ⟨q, r, rfl, nq, nr, b6⟩
  have rx := rx.behind b6
  have ry := ry.behind b6
  have B6 := below_both B5 b6
  clear b6
  go_wp2_with fail
  refine (rdiv_num (rx.re HX.out) ry (by omega) HY2.out).mono ?_
  rintro e w7 ⟨v5, v6, rfl, r5, r6, b7⟩
  have nq := nq.behind b7
  have nr := nr.behind b7
  have B7 := below_both B6 b7
  clear b7
  go_wp2_with fail
  refine (limbs_num r5 (by omega)).mono ?_
  rintro e w8 ⟨v7, rfl, n7, b8⟩
  have nq := nq.behind b8
  have nr := nr.behind b8
  have r6 := r6.behind b8
  have B8 := below_both B7 b8
  clear b8
  go_wp2_with fail
  refine (same_new (K := i) nq n7 rfl HQ.out (by omega)).mono ?_
  rintro e w9 ⟨rfl, b9⟩
  have nr := nr.behind b9
  have r6 := r6.behind b9
  have B9 := below_both B8 b9
  clear b9
  go_wp2_with fail
  refine (limbs_num r6 (by omega)).mono ?_
  rintro e w10 ⟨v8, rfl, n8, b10⟩
  have nr := nr.behind b10
  have B10 := below_both B9 b10
  clear b10
  go_wp2_with fail
  refine (same_new (K := i) nr n8 rfl HR.out (by omega)).mono ?_
  rintro e w11 ⟨rfl, b11⟩
  have B11 := below_both B10 b11
  clear b11
  go_wp2
  go_ret
  exact ⟨rfl, B11⟩
set_option maxRecDepth 100000 in
set_option maxHeartbeats 4000000 in
theorem ndtells_ok_zero (va vb : Value) (X j i : Nat) (m : Nat) (w : World) (hA : Num w va X i) (hB : Num w vb 0 j) (hi : i ≤ 1048576) (hj : j ≤ 1048576) (hm : m ≤ 65536) :
    Calls Try.prog 7 #[va, vb, .int .i64 (m : Int)] w fun e W' => e = .returned (.bool true) ∧ Below w.heap.size w W' := by
  have hXl := hA.lt
  have H1 := Lib.hid (limbs_lt hXl hm)
  have H2 : Hid (X / 2 ^ m < 18446744073709551616 ^ i) := Lib.hid (Nat.lt_of_le_of_lt (Nat.div_le_self _ _) hXl)
  have hm0 : decide ((65536 : Int) < (m : Int)) = false := decide_eq_false (by omega)
  have hm1 : decide (65536 < m) = false := decide_eq_false (by omega)
  have hm2 : decide ((m : Int) < 0) = false := decide_eq_false (by omega)
  have HM := Lib.hid hm
  clear hm
  have he0 : (((digs 65536 0).length : Int) == 0) = true := by rw [digs_zero]; rfl
  obtain ⟨a1, a2, a3, rfl⟩ := hA.slice
  obtain ⟨c1, c2, c3, rfl⟩ := hB.slice
  go_enter Try.func7, Try.ntmps7
  go_wp2_with fail
  refine (ndalive w).mono ?_
  rintro e w1 ⟨rfl, b1⟩
  have hA := hA.behind b1
  have hB := hB.behind b1
  have B1 := b1
  go_wp2_with fail
  refine (of_num hA (by omega)).mono ?_
  rintro e w2 ⟨vx, rfl, rx, b2⟩
  have hA := hA.behind b2
  have hB := hB.behind b2
  have B2 := below_both B1 b2
  clear b2
  go_wp2_with fail
  refine (of_num hB (by omega)).mono ?_
  rintro e w3 ⟨vy, rfl, ry, b3⟩
  have hA := hA.behind b3
  have hB := hB.behind b3
  have rx := rx.behind b3
  have B3 := below_both B2 b3
  clear b3
  obtain ⟨xa, xc, rfl, -⟩ := rx.slice
  obtain ⟨ya, yc, rfl, -⟩ := ry.slice
  go_wp2_with fail
  refine (shl_num hA (by omega) HM.out).mono ?_
  rintro e w4 ⟨up, rfl, n1, b4⟩
  have hA := hA.behind b4
  have hB := hB.behind b4
  have rx := rx.behind b4
  have B4 := below_both B3 b4
  clear b4
  go_wp2_with fail
  refine (shr_num hA (by omega) HM.out).mono ?_
  rintro e w5 ⟨dn, rfl, n2, b5⟩
  have hA := hA.behind b5
  have hB := hB.behind b5
  have rx := rx.behind b5
  have n1 := n1.behind b5
  have B5 := below_both B4 b5
  clear b5
  go_wp2_with fail
  refine (rshl_num rx (by omega) HM.out).mono ?_
  rintro e w6 ⟨v1, rfl, r1, b6⟩
  have hA := hA.behind b6
  have hB := hB.behind b6
  have rx := rx.behind b6
  have n1 := n1.behind b6
  have n2 := n2.behind b6
  have B6 := below_both B5 b6
  clear b6
  go_wp2_with fail
  refine (limbs_num r1 (by have := HM.out; omega)).mono ?_
  rintro e w7 ⟨v2, rfl, n3, b7⟩
  have hA := hA.behind b7
  have hB := hB.behind b7
  have rx := rx.behind b7
  have n1 := n1.behind b7
  have n2 := n2.behind b7
  have B7 := below_both B6 b7
  clear b7
  go_wp2_with fail
  refine (same_new (K := i + 1024) n1 n3 rfl H1.out (by omega)).mono ?_
  rintro e w8 ⟨rfl, b8⟩
  have hA := hA.behind b8
  have hB := hB.behind b8
  have rx := rx.behind b8
  have n2 := n2.behind b8
  have B8 := below_both B7 b8
  clear b8
  go_wp2_with fail
  refine (rshr_num rx (by omega) HM.out).mono ?_
  rintro e w9 ⟨v3, rfl, r3, b9⟩
  have hA := hA.behind b9
  have hB := hB.behind b9
  have n2 := n2.behind b9
  have B9 := below_both B8 b9
  clear b9
  go_wp2_with fail
  refine (limbs_num r3 (by omega)).mono ?_
  rintro e w10 ⟨v4, rfl, n4, b10⟩
  have hA := hA.behind b10
  have hB := hB.behind b10
  have n2 := n2.behind b10
  have B10 := below_both B9 b10
  clear b10
  go_wp2_with fail
  refine (same_new (K := i) n2 n4 rfl H2.out (by omega)).mono ?_
  rintro e w11 ⟨rfl, b11⟩
  have hA := hA.behind b11
  have hB := hB.behind b11
  have B11 := below_both B10 b11
  clear b11
  clear hm0 hm1 hm2
  go_wp2_with fail
  refine (divmod_zero hA hB (by omega) (by omega)).mono ?_
  rintro e w12 ⟨rfl, b12⟩
  have B12 := below_both B11 b12
  clear b12
  go_wp2
  go_ret
  exact ⟨rfl, B12⟩
set_option maxRecDepth 100000 in
set_option maxHeartbeats 4000000 in
theorem ndtells_ok_long (va vb : Value) (X Y j i : Nat) (m : Nat) (w : World) (hA : Num w va X i) (hB : Num w vb Y j) (hi : i ≤ 1048576) (hj : j ≤ 1048576) (hm : m ≤ 65536) (hY : Y ≠ 0) (hx : 60 < (digs 65536 X).length) :
    Calls Try.prog 7 #[va, vb, .int .i64 (m : Int)] w fun e W' => e = .returned (.bool true) ∧ Below w.heap.size w W' := by
  have hXl := hA.lt
  have H1 := Lib.hid (limbs_lt hXl hm)
  have H2 : Hid (X / 2 ^ m < 18446744073709551616 ^ i) := Lib.hid (Nat.lt_of_le_of_lt (Nat.div_le_self _ _) hXl)
  have hm0 : decide ((65536 : Int) < (m : Int)) = false := decide_eq_false (by omega)
  have hm1 : decide (65536 < m) = false := decide_eq_false (by omega)
  have hm2 : decide ((m : Int) < 0) = false := decide_eq_false (by omega)
  have HM := Lib.hid hm
  clear hm
  have HY := Lib.hid hY
  have hpos : 0 < (digs 65536 Y).length := by rw [digs_pos (by decide) hY]; simp
  have he0 : (((digs 65536 Y).length : Int) == 0) = false := beq_eq_false_iff_ne.2 (by omega)
  have hx' : (60 : Int) < ((digs 65536 X).length : Int) := by omega
  obtain ⟨a1, a2, a3, rfl⟩ := hA.slice
  obtain ⟨c1, c2, c3, rfl⟩ := hB.slice
  go_enter Try.func7, Try.ntmps7
  go_wp2_with fail
  refine (ndalive w).mono ?_
  rintro e w1 ⟨rfl, b1⟩
  have hA := hA.behind b1
  have hB := hB.behind b1
  have B1 := b1
  go_wp2_with fail
  refine (of_num hA (by omega)).mono ?_
  rintro e w2 ⟨vx, rfl, rx, b2⟩
  have hA := hA.behind b2
  have hB := hB.behind b2
  have B2 := below_both B1 b2
  clear b2
  go_wp2_with fail
  refine (of_num hB (by omega)).mono ?_
  rintro e w3 ⟨vy, rfl, ry, b3⟩
  have hA := hA.behind b3
  have hB := hB.behind b3
  have rx := rx.behind b3
  have B3 := below_both B2 b3
  clear b3
  obtain ⟨xa, xc, rfl, -⟩ := rx.slice
  obtain ⟨ya, yc, rfl, -⟩ := ry.slice
  go_wp2_with fail
  refine (shl_num hA (by omega) HM.out).mono ?_
  rintro e w4 ⟨up, rfl, n1, b4⟩
  have hA := hA.behind b4
  have hB := hB.behind b4
  have rx := rx.behind b4
  have B4 := below_both B3 b4
  clear b4
  go_wp2_with fail
  refine (shr_num hA (by omega) HM.out).mono ?_
  rintro e w5 ⟨dn, rfl, n2, b5⟩
  have hA := hA.behind b5
  have hB := hB.behind b5
  have rx := rx.behind b5
  have n1 := n1.behind b5
  have B5 := below_both B4 b5
  clear b5
  go_wp2_with fail
  refine (rshl_num rx (by omega) HM.out).mono ?_
  rintro e w6 ⟨v1, rfl, r1, b6⟩
  have hA := hA.behind b6
  have hB := hB.behind b6
  have rx := rx.behind b6
  have n1 := n1.behind b6
  have n2 := n2.behind b6
  have B6 := below_both B5 b6
  clear b6
  go_wp2_with fail
  refine (limbs_num r1 (by have := HM.out; omega)).mono ?_
  rintro e w7 ⟨v2, rfl, n3, b7⟩
  have hA := hA.behind b7
  have hB := hB.behind b7
  have rx := rx.behind b7
  have n1 := n1.behind b7
  have n2 := n2.behind b7
  have B7 := below_both B6 b7
  clear b7
  go_wp2_with fail
  refine (same_new (K := i + 1024) n1 n3 rfl H1.out (by omega)).mono ?_
  rintro e w8 ⟨rfl, b8⟩
  have hA := hA.behind b8
  have hB := hB.behind b8
  have rx := rx.behind b8
  have n2 := n2.behind b8
  have B8 := below_both B7 b8
  clear b8
  go_wp2_with fail
  refine (rshr_num rx (by omega) HM.out).mono ?_
  rintro e w9 ⟨v3, rfl, r3, b9⟩
  have hA := hA.behind b9
  have hB := hB.behind b9
  have n2 := n2.behind b9
  have B9 := below_both B8 b9
  clear b9
  go_wp2_with fail
  refine (limbs_num r3 (by omega)).mono ?_
  rintro e w10 ⟨v4, rfl, n4, b10⟩
  have hA := hA.behind b10
  have hB := hB.behind b10
  have n2 := n2.behind b10
  have B10 := below_both B9 b10
  clear b10
  go_wp2_with fail
  refine (same_new (K := i) n2 n4 rfl H2.out (by omega)).mono ?_
  rintro e w11 ⟨rfl, b11⟩
  have hA := hA.behind b11
  have hB := hB.behind b11
  have B11 := below_both B10 b11
  clear b11
  clear hm0 hm1 hm2
  go_wp2_with fail
  refine (divmod_num hA hB (by omega) (by omega) HY.out).mono ?_
  rintro e w12 ⟨q, r, rfl, nq, nr, b12⟩
  have B12 := below_both B11 b12
  clear b12
  go_wp2
  go_ret
  exact ⟨rfl, B12⟩
set_option maxRecDepth 100000 in
set_option maxHeartbeats 4000000 in
theorem ndtells_ok_num (va vb : Value) (X Y j i : Nat) (m : Nat) (w : World) (hA : Num w va X i) (hB : Num w vb Y j) (hi : i ≤ 1048576) (hj : j ≤ 1048576) (hm : m ≤ 65536) (hY : Y ≠ 0) (hx : (digs 65536 X).length ≤ 60) :
    Calls Try.prog 7 #[va, vb, .int .i64 (m : Int)] w fun e W' => e = .returned (.bool true) ∧ Below w.heap.size w W' := by
  have hXl := hA.lt
  have H1 := Lib.hid (limbs_lt hXl hm)
  have H2 : Hid (X / 2 ^ m < 18446744073709551616 ^ i) := Lib.hid (Nat.lt_of_le_of_lt (Nat.div_le_self _ _) hXl)
  have hm0 : decide ((65536 : Int) < (m : Int)) = false := decide_eq_false (by omega)
  have hm1 : decide (65536 < m) = false := decide_eq_false (by omega)
  have hm2 : decide ((m : Int) < 0) = false := decide_eq_false (by omega)
  have HM := Lib.hid hm
  clear hm
  have HY := Lib.hid hY
  have hpos : 0 < (digs 65536 Y).length := by rw [digs_pos (by decide) hY]; simp
  have he0 : (((digs 65536 Y).length : Int) == 0) = false := beq_eq_false_iff_ne.2 (by omega)
  have hx' : decide ((60 : Int) < ((digs 65536 X).length : Int)) = false := decide_eq_false (by omega)
  have hx2 : decide (60 < (digs 65536 X).length) = false := decide_eq_false (by omega)
  have HX : Hid (X < 65536 ^ 60) := Lib.hid (by
    have h1 := val_lt (digs_low (B := 65536) (by decide) X) (by decide)
    rw [val_digs (by decide)] at h1
    exact Nat.lt_of_lt_of_le h1 (Nat.pow_le_pow_right (by decide) hx))
  have HY2 : Hid (0 < Y) := Lib.hid (Nat.pos_of_ne_zero hY)
  have HQ : Hid (X / Y < 18446744073709551616 ^ i) := Lib.hid (Nat.lt_of_le_of_lt (Nat.div_le_self _ _) hXl)
  have HR : Hid (X % Y < 18446744073709551616 ^ i) := Lib.hid (Nat.lt_of_le_of_lt (Nat.mod_le _ _) hXl)
  clear hx
  obtain ⟨a1, a2, a3, rfl⟩ := hA.slice
  obtain ⟨c1, c2, c3, rfl⟩ := hB.slice
  go_enter Try.func7, Try.ntmps7
  go_wp2_with fail
  refine (ndalive w).mono ?_
  rintro e w1 ⟨rfl, b1⟩
  have hA := hA.behind b1
  have hB := hB.behind b1
  have B1 := b1
  go_wp2_with fail
  refine (of_num hA (by omega)).mono ?_
  rintro e w2 ⟨vx, rfl, rx, b2⟩
  have hA := hA.behind b2
  have hB := hB.behind b2
  have B2 := below_both B1 b2
  clear b2
  go_wp2_with fail
  refine (of_num hB (by omega)).mono ?_
  rintro e w3 ⟨vy, rfl, ry, b3⟩
  have hA := hA.behind b3
  have hB := hB.behind b3
  have rx := rx.behind b3
  have B3 := below_both B2 b3
  clear b3
  obtain ⟨xa, xc, rfl, -⟩ := rx.slice
  obtain ⟨ya, yc, rfl, -⟩ := ry.slice
  go_wp2_with fail
  refine (shl_num hA (by omega) HM.out).mono ?_
  rintro e w4 ⟨up, rfl, n1, b4⟩
  have hA := hA.behind b4
  have hB := hB.behind b4
  have rx := rx.behind b4
  have ry := ry.behind b4
  have B4 := below_both B3 b4
  clear b4
  go_wp2_with fail
  refine (shr_num hA (by omega) HM.out).mono ?_
  rintro e w5 ⟨dn, rfl, n2, b5⟩
  have hA := hA.behind b5
  have hB := hB.behind b5
  have rx := rx.behind b5
  have ry := ry.behind b5
  have n1 := n1.behind b5
  have B5 := below_both B4 b5
  clear b5
  go_wp2_with fail
  refine (rshl_num rx (by omega) HM.out).mono ?_
  rintro e w6 ⟨v1, rfl, r1, b6⟩
  have hA := hA.behind b6
  have hB := hB.behind b6
  have rx := rx.behind b6
  have ry := ry.behind b6
  have n1 := n1.behind b6
  have n2 := n2.behind b6
  have B6 := below_both B5 b6
  clear b6
  go_wp2_with fail
  refine (limbs_num r1 (by have := HM.out; omega)).mono ?_
  rintro e w7 ⟨v2, rfl, n3, b7⟩
  have hA := hA.behind b7
  have hB := hB.behind b7
  have rx := rx.behind b7
  have ry := ry.behind b7
  have n1 := n1.behind b7
  have n2 := n2.behind b7
  have B7 := below_both B6 b7
  clear b7
  go_wp2_with fail
  refine (same_new (K := i + 1024) n1 n3 rfl H1.out (by omega)).mono ?_
  rintro e w8 ⟨rfl, b8⟩
  have hA := hA.behind b8
  have hB := hB.behind b8
  have rx := rx.behind b8
  have ry := ry.behind b8
  have n2 := n2.behind b8
  have B8 := below_both B7 b8
  clear b8
  go_wp2_with fail
  refine (rshr_num rx (by omega) HM.out).mono ?_
  rintro e w9 ⟨v3, rfl, r3, b9⟩
  have hA := hA.behind b9
  have hB := hB.behind b9
  have rx := rx.behind b9
  have ry := ry.behind b9
  have n2 := n2.behind b9
  have B9 := below_both B8 b9
  clear b9
  go_wp2_with fail
  refine (limbs_num r3 (by omega)).mono ?_
  rintro e w10 ⟨v4, rfl, n4, b10⟩
  have hA := hA.behind b10
  have hB := hB.behind b10
  have rx := rx.behind b10
  have ry := ry.behind b10
  have n2 := n2.behind b10
  have B10 := below_both B9 b10
  clear b10
  go_wp2_with fail
  refine (same_new (K := i) n2 n4 rfl H2.out (by omega)).mono ?_
  rintro e w11 ⟨rfl, b11⟩
  have hA := hA.behind b11
  have hB := hB.behind b11
  have rx := rx.behind b11
  have ry := ry.behind b11
  have B11 := below_both B10 b11
  clear b11
  clear hm0 hm1 hm2
  go_wp2_with fail
  refine (divmod_num hA hB (by omega) (by omega) HY.out).mono ?_
  rintro e w12 ⟨q, r, rfl, nq, nr, b12⟩
  have rx := rx.behind b12
  have ry := ry.behind b12
  have B12 := below_both B11 b12
  clear b12
  go_wp2_with fail
  refine (rdiv_num (rx.re HX.out) ry (by omega) HY2.out).mono ?_
  rintro e w13 ⟨v5, v6, rfl, r5, r6, b13⟩
  have nq := nq.behind b13
  have nr := nr.behind b13
  have B13 := below_both B12 b13
  clear b13
  go_wp2_with fail
  refine (limbs_num r5 (by omega)).mono ?_
  rintro e w14 ⟨v7, rfl, n7, b14⟩
  have nq := nq.behind b14
  have nr := nr.behind b14
  have r6 := r6.behind b14
  have B14 := below_both B13 b14
  clear b14
  go_wp2_with fail
  refine (same_new (K := i) nq n7 rfl HQ.out (by omega)).mono ?_
  rintro e w15 ⟨rfl, b15⟩
  have nr := nr.behind b15
  have r6 := r6.behind b15
  have B15 := below_both B14 b15
  clear b15
  go_wp2_with fail
  refine (limbs_num r6 (by omega)).mono ?_
  rintro e w16 ⟨v8, rfl, n8, b16⟩
  have nr := nr.behind b16
  have B16 := below_both B15 b16
  clear b16
  go_wp2_with fail
  refine (same_new (K := i) nr n8 rfl HR.out (by omega)).mono ?_
  rintro e w17 ⟨rfl, b17⟩
  have B17 := below_both B16 b17
  clear b17
  go_wp2
  go_ret
  exact ⟨rfl, B17⟩
theorem ndtells_walk (va : Value) (xs : List Nat) (vb : Value) (ys : List Nat) (n : Int) (w : World) (hA : Arg w va xs) (hxl : xs.length ≤ 1048576) (hx : Low 18446744073709551616 xs) (hB : Arg w vb ys) (hyl : ys.length ≤ 1048576) (hy : Low 18446744073709551616 ys) (_h1 : -9223372036854775808 ≤ n) (_h2 : n < 9223372036854775808) :
    Calls Try.prog 7 #[va, vb, .int .i64 n] w fun e W' => e = .returned (.bool true) ∧ Below w.heap.size w W' := by
  have hA' : Num w va _ 1048576 := ⟨xs, hA, hx, rfl, hxl⟩
  have hB' : Num w vb _ 1048576 := ⟨ys, hB, hy, rfl, hyl⟩
  generalize val 18446744073709551616 xs = X at hA'
  generalize val 18446744073709551616 ys = Y at hB'
  by_cases hn : n < 0
  · by_cases hY : Y = 0
    · subst hY; exact ndtells_bad1_zero va vb X _ _ n w hA' hB' (by omega) (by omega) hn
    · by_cases hl : (digs 65536 X).length ≤ 60
      · exact ndtells_bad1_num va vb X Y _ _ n w hA' hB' (by omega) (by omega) hn hY hl
      · exact ndtells_bad1_long va vb X Y _ _ n w hA' hB' (by omega) (by omega) hn hY (by omega)
  · by_cases hn2 : 65536 < n
    · by_cases hY : Y = 0
      · subst hY; exact ndtells_bad2_zero va vb X _ _ n w hA' hB' (by omega) (by omega) hn2
      · by_cases hl : (digs 65536 X).length ≤ 60
        · exact ndtells_bad2_num va vb X Y _ _ n w hA' hB' (by omega) (by omega) hn2 hY hl
        · exact ndtells_bad2_long va vb X Y _ _ n w hA' hB' (by omega) (by omega) hn2 hY (by omega)
    · obtain ⟨m, rfl⟩ : ∃ m : Nat, n = (m : Int) := ⟨n.toNat, by omega⟩
      by_cases hY : Y = 0
      · subst hY; exact ndtells_ok_zero va vb X _ _ m w hA' hB' (by omega) (by omega) (by omega)
      · by_cases hl : (digs 65536 X).length ≤ 60
        · exact ndtells_ok_num va vb X Y _ _ m w hA' hB' (by omega) (by omega) (by omega) hY hl
        · exact ndtells_ok_long va vb X Y _ _ m w hA' hB' (by omega) (by omega) (by omega) hY (by omega)
end Go.Proofs.Ytppbifijgkcpjaa
