/- vernierlaw02.NatdivShifts: true, whatever the list and the int. -/
import Derived.Test.YtppbifijgkcpjaaSqrt
namespace Go.Proofs.Ytppbifijgkcpjaa
open Go.RowKit Go.Shelf

theorem bits_is {va : Value} {N i d : Nat} {w : World} (hA : Num w va N i) (hi : i ≤ 17592186044416) (h : nbits N = d) :
    Calls Try.prog 25 #[va] w fun e W' => e = .returned (.int .i64 (d : Int)) ∧ Below w.heap.size w W' := by
  subst h
  exact bits_num hA hi
set_option maxRecDepth 100000 in
set_option maxHeartbeats 4000000 in
theorem ndshifts_num (va : Value) (X i m : Nat) (n : Int) (w : World) (hA : Num w va X i) (hi : i ≤ 1048576) (hm : m < 5000) (hn : (wrap64 (n.tmod 5000 + 5000)).tmod 5000 = (m : Int)) (c : Int) (HC : Hid (cmpN (X / 2 ^ m * 2 ^ m) X = c)) (hc : c ≤ 0) (d : Nat) (HD : Hid (nbits (dist X (X / 2 ^ m * 2 ^ m)) = d)) (hd : d ≤ m) :
    Calls Try.prog 10 #[va, .int .i64 n] w fun e W' => e = .returned (.bool true) ∧ Below w.heap.size w W' := by
  have hXl := hA.lt
  have hm16 : m ≤ 65536 := by omega
  have hp : 0 < 2 ^ m := Nat.pow_pos (by decide)
  have H1 : Hid (X * 2 ^ m < 18446744073709551616 ^ (i + 80)) := Lib.hid (by
    have e : 18446744073709551616 ^ (i + 80) = 2 ^ (64 * (i + 80)) := by rw [show 18446744073709551616 = 2 ^ 64 from rfl, ← Nat.pow_mul]
    have e2 : 18446744073709551616 ^ i = 2 ^ (64 * i) := by rw [show 18446744073709551616 = 2 ^ 64 from rfl, ← Nat.pow_mul]
    rw [e]
    rw [e2] at hXl
    have h1 : 2 ^ (64 * i) * 2 ^ m ≤ 2 ^ (64 * (i + 80)) := by
      rw [← Nat.pow_add]
      exact Nat.pow_le_pow_right (by decide) (by omega)
    exact Nat.lt_of_lt_of_le (Nat.mul_lt_mul_of_pos_right hXl hp) h1)
  have H3 : Hid (X / 2 ^ m < 18446744073709551616 ^ i) := Lib.hid (Nat.lt_of_le_of_lt (Nat.div_le_self _ _) hXl)
  have H4 : Hid (X / 2 ^ m * 2 ^ m < 18446744073709551616 ^ i) := Lib.hid (Nat.lt_of_le_of_lt (Nat.div_mul_le_self _ _) hXl)
  have H5 : Hid (X * 2 ^ m / 2 ^ m = X) := Lib.hid (Nat.mul_div_cancel _ hp)
  clear hp
  obtain ⟨a1, a2, a3, rfl⟩ := hA.slice
  go_enter Try.func10, Try.ntmps10
  go_wp2_with fail
  refine (ndalive w).mono ?_
  rintro e w1 ⟨rfl, b1⟩
  have hA := hA.behind b1
  have B1 := b1
  go_wp2_with fail
  refine (shl_num hA (by omega) hm16).mono ?_
  rintro e w2 ⟨up, rfl, n1, b2⟩
  have hA := hA.behind b2
  have B2 := below_both B1 b2
  clear b2
  go_wp2_with fail
  refine (shr_num (n1.num H1.out) (by omega) hm16).mono ?_
  rintro e w3 ⟨bk, rfl, n2, b3⟩
  have hA := hA.behind b3
  have B3 := below_both B2 b3
  clear b3
  go_wp2_with fail
  refine (shr_num hA (by omega) hm16).mono ?_
  rintro e w4 ⟨dn, rfl, n3, b4⟩
  have hA := hA.behind b4
  have n2 := n2.behind b4
  have B4 := below_both B3 b4
  clear b4
  go_wp2_with fail
  refine (shl_num (n3.num H3.out) (by omega) hm16).mono ?_
  rintro e w5 ⟨ag, rfl, n4, b5⟩
  have hA := hA.behind b5
  have n2 := n2.behind b5
  have B5 := below_both B4 b5
  clear b5
  go_wp2_with fail
  refine (norm_num hA (by omega)).mono ?_
  rintro e w6 ⟨v5, rfl, u5, n5, b6⟩
  have hA := hA.behind b6
  have n2 := n2.behind b6
  have n4 := n4.behind b6
  have B6 := below_both B5 b6
  clear b6
  go_wp2_with fail
  refine (same_new (K := i) n2 n5 H5.out (by rw [H5.out]; exact hXl) (by omega)).mono ?_
  rintro e w7 ⟨rfl, b7⟩
  have hA := hA.behind b7
  have n4 := n4.behind b7
  have B7 := below_both B6 b7
  clear b7
  go_wp2_with fail
  refine (cmp_is (n4.num H4.out) hA (by omega) (by omega) HC.out).mono ?_
  rintro e w8 ⟨rfl, b8⟩
  have hA := hA.behind b8
  have n4 := n4.behind b8
  have B8 := below_both B7 b8
  clear b8
  go_wp2_with fail
  refine (sub_num hA (n4.num H4.out) (by omega) (by omega)).mono ?_
  rintro e w9 ⟨v6, rfl, u6, n6, b9⟩
  have B9 := below_both B8 b9
  clear b9
  go_wp2_with fail
  refine (bits_is u6 (by omega) HD.out).mono ?_
  rintro e w10 ⟨rfl, b10⟩
  have B10 := below_both B9 b10
  clear b10
  go_wp2
  go_ret
  exact ⟨rfl, B10⟩
theorem ndshifts_walk (va : Value) (xs : List Nat) (n : Int) (w : World) (hA : Arg w va xs) (hxl : xs.length ≤ 1048576) (hx : Low 18446744073709551616 xs) (h1 : -9223372036854775808 ≤ n) (h2 : n < 9223372036854775808) :
    Calls Try.prog 10 #[va, .int .i64 n] w fun e W' => e = .returned (.bool true) ∧ Below w.heap.size w W' := by
  have hA' : Num w va _ 1048576 := ⟨xs, hA, hx, rfl, hxl⟩
  generalize val 18446744073709551616 xs = X at hA'
  have hb1 : -5000 < n.tmod 5000 := Int.lt_tmod_of_pos n (by decide)
  have hb2 : n.tmod 5000 < 5000 := Int.tmod_lt_of_pos n (by decide)
  obtain ⟨m, hm⟩ : ∃ m : Nat, m = ((n.tmod 5000 + 5000) % 5000).toNat := ⟨_, rfl⟩
  have hp : 0 < 2 ^ m := Nat.pow_pos (by decide)
  have hle := Nat.div_mul_le_self X (2 ^ m)
  have hdm := Nat.div_add_mod' X (2 ^ m)
  have hlt := Nat.mod_lt X hp
  refine ndshifts_num va X 1048576 m n w hA' (by omega) (by omega) ?_ _ (Lib.hid rfl) ?_ _ (Lib.hid rfl) ?_
  · rw [IntWalk.wrap64_in _ (by omega), Int.tmod_eq_emod_of_nonneg (by omega)]
    omega
  · unfold cmpN
    (repeat' split) <;> omega
  · refine nbits_le ?_
    rw [dist_ge hle]
    omega
end Go.Proofs.Ytppbifijgkcpjaa
