/- vernierlaw02.NatdivRoots: true, whatever the list. -/
import Derived.Test.YtppbifijgkcpjaaSqrt
namespace Go.Proofs.Ytppbifijgkcpjaa
open Go.RowKit Go.Shelf

set_option maxRecDepth 100000 in
set_option maxHeartbeats 4000000 in
theorem ndroots_long (a : Option Addr) (m cap : Nat) (w : World) (hm : 40 < m) :
    Calls Try.prog 9 #[.slice a m cap] w fun e W' => e = .returned (.bool true) ∧ Below w.heap.size w W' := by
  have hm' : (40 : Int) < (m : Int) := by omega
  go_enter Try.func9, Try.ntmps9
  go_wp2_with fail
  refine (ndalive w).mono ?_
  rintro e w1 ⟨rfl, b1⟩
  have B1 := b1
  go_wp2
  go_ret
  exact ⟨rfl, B1⟩
set_option maxRecDepth 100000 in
set_option maxHeartbeats 4000000 in
theorem ndroots_num (a : Option Addr) (m cap : Nat) (X i : Nat) (w : World) (hA : Num w (.slice a m cap) X i) (hi : i ≤ 40) (hm : m ≤ 40) :
    Calls Try.prog 9 #[.slice a m cap] w fun e W' => e = .returned (.bool true) ∧ Below w.heap.size w W' := by
  have hXl := hA.lt
  have hm' : (m : Int) ≤ 40 := by omega
  go_enter Try.func9, Try.ntmps9
  go_wp2_with fail
  refine (ndalive w).mono ?_
  rintro e w1 ⟨rfl, b1⟩
  have hA := hA.behind b1
  have B1 := b1
  go_wp2_with fail
  refine (sqrt_num hA (by omega)).mono ?_
  rintro e w2 ⟨q, r, G, rfl, hG, nq, nr, b2⟩
  have hA := hA.behind b2
  have B2 := below_both B1 b2
  clear b2
  have HQ : Hid (G < 18446744073709551616 ^ i) := Lib.hid (by
    refine Nat.lt_of_le_of_lt ?_ hXl
    rcases Nat.eq_zero_or_pos G with h0 | h0
    · omega
    · exact Nat.le_trans (Nat.le_mul_of_pos_left G h0) hG.1)
  have HR : Hid (X - G * G < 18446744073709551616 ^ i) := Lib.hid (Nat.lt_of_le_of_lt (Nat.sub_le _ _) hXl)
  have HE : Hid (G * G + (X - G * G) = X) := Lib.hid (Nat.add_sub_cancel' hG.1)
  have HC : Hid (cmpN ((G + 1) * (G + 1)) X = 1) := Lib.hid (cmpN_gt hG.2)
  clear hG
  go_wp2_with fail
  have b3 := (Below.refl (w2).heap.size (w2)).alloc (Nat.le_refl _) (.cells #[.int .u64 ((1 : Nat) : Int)] 38)
  have hA := hA.behind b3
  have nq := nq.behind b3
  have nr := nr.behind b3
  have B3 := below_both B2 b3
  clear b3
  have h1 := num_word w2 1 (by decide)
  refine (add_num (nq.num HQ.out) h1 (by omega) (by omega)).mono ?_
  rintro e w4 ⟨v1, rfl, u1, n1, b4⟩
  have hA := hA.behind b4
  have nq := nq.behind b4
  have nr := nr.behind b4
  have B4 := below_both B3 b4
  clear b4
  go_wp2_with fail
  refine (mul_num (nq.num HQ.out) (nq.num HQ.out) (by omega)).mono ?_
  rintro e w5 ⟨v2, rfl, u2, n2, b5⟩
  have hA := hA.behind b5
  have nr := nr.behind b5
  have u1 := u1.behind b5
  have B5 := below_both B4 b5
  clear b5
  go_wp2_with fail
  refine (add_num u2 (nr.num HR.out) (by omega) (by omega)).mono ?_
  rintro e w6 ⟨v3, rfl, u3, n3, b6⟩
  have hA := hA.behind b6
  have u1 := u1.behind b6
  have B6 := below_both B5 b6
  clear b6
  go_wp2_with fail
  refine (norm_num hA (by omega)).mono ?_
  rintro e w7 ⟨v4, rfl, u4, n4, b7⟩
  have hA := hA.behind b7
  have u1 := u1.behind b7
  have u3 := u3.behind b7
  have n3 := n3.behind b7
  have B7 := below_both B6 b7
  clear b7
  go_wp2_with fail
  refine (same_new n3 n4 HE.out u3.lt (by omega)).mono ?_
  rintro e w8 ⟨rfl, b8⟩
  have hA := hA.behind b8
  have u1 := u1.behind b8
  have B8 := below_both B7 b8
  clear b8
  go_wp2_with fail
  refine (mul_num u1 u1 (by omega)).mono ?_
  rintro e w9 ⟨v5, rfl, u5, n5, b9⟩
  have hA := hA.behind b9
  have B9 := below_both B8 b9
  clear b9
  go_wp2_with fail
  refine (cmp_is u5 hA (by omega) (by omega) HC.out).mono ?_
  rintro e w10 ⟨rfl, b10⟩
  have B10 := below_both B9 b10
  clear b10
  go_wp2
  go_ret
  exact ⟨rfl, B10⟩
theorem ndroots_walk (va : Value) (xs : List Nat) (w : World) (hA : Arg w va xs) (_hxl : xs.length ≤ 17592186043904) (hx : Low 18446744073709551616 xs) :
    Calls Try.prog 9 #[va] w fun e W' => e = .returned (.bool true) ∧ Below w.heap.size w W' := by
  obtain ⟨a, cap, rfl⟩ := hA.slice
  by_cases h : xs.length ≤ 40
  · exact ndroots_num _ _ _ _ _ w ⟨xs, hA, hx, rfl, Nat.le_refl _⟩ h h
  · exact ndroots_long _ _ _ w (by omega)
end Go.Proofs.Ytppbifijgkcpjaa
