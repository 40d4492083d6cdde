/- need: tri, lu, chol; Tri, Lu, Chol. -/
import Derived.Test.YtgppbimbampenaaNeCount
namespace Go.Proofs.Ytgppbimbampenaa
open Go.RowKit Go.Shelf
theorem rest_z {n : Nat} : wrap64 ((n : Int) - (n : Int) / 2) = ((n - n / 2 : Nat) : Int) ∨ 9223372036854775807 < (n : Int) := by
  rcases Int.lt_or_le 9223372036854775807 (n : Int) with h | h
  · exact .inr h
  · left; rw [IntWalk.wrap64_in _ (by omega)]; omega
theorem need_halves {n : Nat} {w : World} (hn : n ≤ 64) : Calls Try.prog 93 #[.int .i64 (n : Int)] w fun e W' => e = .returned (.tuple #[.int .i64 ((n / 2 : Nat) : Int), .int .i64 ((n - n / 2 : Nat) : Int)]) ∧ w = W' := by
  have e1 : ((n / 2 : Nat) : Int) = (n : Int) / 2 := by omega
  have e2 : ((n - n / 2 : Nat) : Int) = (n : Int) - (n : Int) / 2 := by omega
  rw [e1, e2]
  clear e1 e2
  go_enter Try.func93, Try.ntmps93
  go_wp2
  go_ret2
  exact ⟨rfl, rfl⟩
theorem need_prod {m k n c : Nat} {w : World} (hm : 1 ≤ m ∧ m ≤ 64) (hk : 1 ≤ k ∧ k ≤ 64) (hn : 1 ≤ n ∧ n ≤ 64) (hc : 1 ≤ c) :
    Calls Try.prog 95 #[.int .i64 (m : Int), .int .i64 (k : Int), .int .i64 (n : Int), .int .i64 (c : Int)] w fun e W' => e = .returned (.int .i64 (needN m k n c : Int)) ∧ w = W' := by
  have h := need_product (w := w) hm hk hn hc
  generalize needN m k n c = N at *
  go_enter Try.func95, Try.ntmps95
  go_wp2_with fail
  refine h.mono ?_
  rintro e w1 ⟨rfl, rfl⟩
  clear h
  go_wp2
  go_ret
  exact ⟨rfl, rfl⟩
theorem mx_three (a b c : Nat) : mxZ [(a : Int), (b : Int), (c : Int)] 3 = ((max (max a b) c : Nat) : Int) := by
  show max (max (max 0 (a : Int)) (b : Int)) (c : Int) = _
  omega
theorem mx_four (a b c d : Nat) : mxZ [(a : Int), (b : Int), (c : Int), (d : Int)] 4 = ((max (max (max a b) c) d : Nat) : Int) := by
  show max (max (max (max 0 (a : Int)) (b : Int)) (c : Int)) (d : Int) = _
  omega
set_option maxRecDepth 100000 in
set_option maxHeartbeats 4000000 in
theorem need_tri {c : Nat} (hc : 1 ≤ c) (n : Nat) : ∀ (m : Nat) (w : World), 1 ≤ n ∧ n ≤ 64 → 1 ≤ m ∧ m ≤ 64 →
    Calls Try.prog 75 #[.int .i64 (n : Int), .int .i64 (m : Int), .int .i64 (c : Int)] w fun e W' => e = .returned (.int .i64 (triN n m c : Int)) ∧ Below w.heap.size w W' := by
  induction n using Nat.strongRecOn with
  | _ n ih =>
    intro m w hn hm
    rcases Nat.lt_or_ge 1 n with h | h
    · have hh := fun w => need_halves (n := n) (w := w) hn.2
      have hI1 := fun w => ih (n / 2) (by omega) m w (by omega) hm
      have hI2 := fun w => ih (n - n / 2) (by omega) m w (by omega) hm
      have hP := fun w => need_prod (m := n - n / 2) (k := n / 2) (n := m) (c := c) (w := w) (by omega) (by omega) hm hc
      have hG := fun w => need_greatest (w := w.alloc _) (argk_new .i64 [(triN (n / 2) m c : Int), (triN (n - n / 2) m c : Int), (needN (n - n / 2) (n / 2) m c : Int)] w 3) (by simp)
      rw [show [(triN (n / 2) m c : Int), (triN (n - n / 2) m c : Int), (needN (n - n / 2) (n / 2) m c : Int)].length = 3 from rfl, mx_three, ← triN_more h] at hG
      generalize triN (n / 2) m c = X at *
      generalize triN (n - n / 2) m c = Y at *
      generalize needN (n - n / 2) (n / 2) m c = Z at *
      generalize triN n m c = R at *
      generalize n / 2 = a at *
      generalize n - a = b at *
      have d : ((n : Int) == 1) = false := beq_eq_false_iff_ne.2 (by omega)
      clear ih h hn hm hc
      go_enter Try.func75, Try.ntmps75
      go_wp2_with fail
      refine (hh _).mono ?_
      rintro e w1 ⟨rfl, rfl⟩
      clear hh
      go_wp2_with fail
      refine (hI1 _).mono ?_
      rintro e w1 ⟨rfl, b1⟩
      go_wp2_with fail
      refine (hI2 _).mono ?_
      rintro e w2 ⟨rfl, b2⟩
      replace b1 := below_both b1 b2
      clear hI1 hI2 b2
      go_wp2_with fail
      refine (hP _).mono ?_
      rintro e w3 ⟨rfl, rfl⟩
      have hb : Below w.heap.size w (w2.alloc (.cells #[.int .i64 (X : Int), .int .i64 (Y : Int), .int .i64 (Z : Int)] 3)) := b1.alloc b1.size _
      have hg := hG w2
      clear hP hG
      go_wp2_with fail
      refine hg.mono ?_
      rintro e w3 ⟨rfl, hw⟩
      cases hw
      go_wp2
      go_ret
      exact ⟨rfl, hb⟩
    · obtain rfl : n = 1 := by omega
      rw [triN_one (Nat.le_refl _)]
      go_enter Try.func75, Try.ntmps75
      go_wp2
      go_ret
      exact ⟨rfl, Below.refl _ _⟩
set_option maxRecDepth 100000 in
set_option maxHeartbeats 4000000 in
theorem need_lu {c : Nat} (hc : 1 ≤ c) (n : Nat) : ∀ (m : Nat) (w : World), 1 ≤ n ∧ n ≤ m → m ≤ 64 →
    Calls Try.prog 76 #[.int .i64 (m : Int), .int .i64 (n : Int), .int .i64 (c : Int)] w fun e W' => e = .returned (.int .i64 (luN m n c : Int)) ∧ Below w.heap.size w W' := by
  induction n using Nat.strongRecOn with
  | _ n ih =>
    intro m w hn hm
    rcases Nat.lt_or_ge 1 n with h | h
    · have hh := fun w => need_halves (n := n) (w := w) (by omega)
      have hI1 := fun w => ih (n / 2) (by omega) m w (by omega) hm
      have hI2 := fun w => ih (n - n / 2) (by omega) (m - n / 2) w (by omega) (by omega)
      have hT := fun w => need_tri hc (n / 2) (n - n / 2) w (by omega) (by omega)
      have hP := fun w => need_prod (m := m - n / 2) (k := n / 2) (n := n - n / 2) (c := c) (w := w) (by omega) (by omega) (by omega) hc
      have hG := fun w => need_greatest (w := w.alloc _) (argk_new .i64 [(luN m (n / 2) c : Int), (triN (n / 2) (n - n / 2) c : Int), (needN (m - n / 2) (n / 2) (n - n / 2) c : Int), (luN (m - n / 2) (n - n / 2) c : Int)] w 3) (by simp)
      rw [show [(luN m (n / 2) c : Int), (triN (n / 2) (n - n / 2) c : Int), (needN (m - n / 2) (n / 2) (n - n / 2) c : Int), (luN (m - n / 2) (n - n / 2) c : Int)].length = 4 from rfl, mx_four, ← luN_more h] at hG
      generalize luN m (n / 2) c = X at *
      generalize triN (n / 2) (n - n / 2) c = Y at *
      generalize needN (m - n / 2) (n / 2) (n - n / 2) c = Z at *
      generalize luN (m - n / 2) (n - n / 2) c = V at *
      generalize luN m n c = R at *
      have e1 : ((m - n / 2 : Nat) : Int) = (m : Int) - ((n / 2 : Nat) : Int) := by omega
      rw [e1] at hP hI2
      have g1 : ((n / 2 : Nat) : Int) ≤ (m : Int) := by omega
      have g2 : (m : Int) ≤ 64 := by omega
      clear e1
      have d : ((n : Int) == 1) = false := beq_eq_false_iff_ne.2 (by omega)
      generalize n / 2 = a at *
      generalize n - a = b at *
      clear ih h hn hm hc
      go_enter Try.func76, Try.ntmps76
      go_wp2_with fail
      refine (hh _).mono ?_
      rintro e w1 ⟨rfl, rfl⟩
      clear hh
      go_wp2_with fail
      refine (hI1 _).mono ?_
      rintro e w1 ⟨rfl, b1⟩
      go_wp2_with fail
      refine (hT _).mono ?_
      rintro e w2 ⟨rfl, b2⟩
      replace b1 := below_both b1 b2
      clear hI1 hT b2
      go_wp2_with fail
      refine (hP _).mono ?_
      rintro e w3 ⟨rfl, rfl⟩
      go_wp2_with fail
      refine (hI2 _).mono ?_
      rintro e w3 ⟨rfl, b2⟩
      replace b1 := below_both b1 b2
      have hb : Below w.heap.size w (w3.alloc (.cells #[.int .i64 (X : Int), .int .i64 (Y : Int), .int .i64 (Z : Int), .int .i64 (V : Int)] 3)) := b1.alloc b1.size _
      have hg := hG w3
      clear hP hG hI2
      go_wp2_with fail
      refine hg.mono ?_
      rintro e w4 ⟨rfl, hw⟩
      cases hw
      go_wp2
      go_ret
      exact ⟨rfl, hb⟩
    · obtain rfl : n = 1 := by omega
      rw [luN_one (Nat.le_refl _)]
      go_enter Try.func76, Try.ntmps76
      go_wp2
      go_ret
      exact ⟨rfl, Below.refl _ _⟩
set_option maxRecDepth 100000 in
set_option maxHeartbeats 4000000 in
theorem need_chol {c : Nat} (hc : 1 ≤ c) (n : Nat) : ∀ (w : World), 1 ≤ n ∧ n ≤ 64 →
    Calls Try.prog 77 #[.int .i64 (n : Int), .int .i64 (c : Int)] w fun e W' => e = .returned (.int .i64 (cholN n c : Int)) ∧ Below w.heap.size w W' := by
  induction n using Nat.strongRecOn with
  | _ n ih =>
    intro w hn
    rcases Nat.lt_or_ge 1 n with h | h
    · have hh := fun w => need_halves (n := n) (w := w) (by omega)
      have hI1 := fun w => ih (n / 2) (by omega) w (by omega)
      have hI2 := fun w => ih (n - n / 2) (by omega) w (by omega)
      have hT := fun w => need_tri hc (n / 2) (n - n / 2) w (by omega) (by omega)
      have hP := fun w => need_prod (m := n - n / 2) (k := n / 2) (n := n - n / 2) (c := c) (w := w) (by omega) (by omega) (by omega) hc
      have hG := fun w => need_greatest (w := w.alloc _) (argk_new .i64 [(cholN (n / 2) c : Int), (triN (n / 2) (n - n / 2) c : Int), (needN (n - n / 2) (n / 2) (n - n / 2) c : Int), (cholN (n - n / 2) c : Int)] w 3) (by simp)
      rw [show [(cholN (n / 2) c : Int), (triN (n / 2) (n - n / 2) c : Int), (needN (n - n / 2) (n / 2) (n - n / 2) c : Int), (cholN (n - n / 2) c : Int)].length = 4 from rfl, mx_four, ← cholN_more h] at hG
      generalize cholN (n / 2) c = X at *
      generalize triN (n / 2) (n - n / 2) c = Y at *
      generalize needN (n - n / 2) (n / 2) (n - n / 2) c = Z at *
      generalize cholN (n - n / 2) c = V at *
      generalize cholN n c = R at *
      have d : ((n : Int) == 1) = false := beq_eq_false_iff_ne.2 (by omega)
      generalize n / 2 = a at *
      generalize n - a = b at *
      clear ih h hn hc
      go_enter Try.func77, Try.ntmps77
      go_wp2_with fail
      refine (hh _).mono ?_
      rintro e w1 ⟨rfl, rfl⟩
      clear hh
      go_wp2_with fail
      refine (hI1 _).mono ?_
      rintro e w1 ⟨rfl, b1⟩
      go_wp2_with fail
      refine (hT _).mono ?_
      rintro e w2 ⟨rfl, b2⟩
      replace b1 := below_both b1 b2
      clear hI1 hT b2
      go_wp2_with fail
      refine (hP _).mono ?_
      rintro e w3 ⟨rfl, rfl⟩
      go_wp2_with fail
      refine (hI2 _).mono ?_
      rintro e w3 ⟨rfl, b2⟩
      replace b1 := below_both b1 b2
      have hb : Below w.heap.size w (w3.alloc (.cells #[.int .i64 (X : Int), .int .i64 (Y : Int), .int .i64 (Z : Int), .int .i64 (V : Int)] 3)) := b1.alloc b1.size _
      have hg := hG w3
      clear hP hG hI2
      go_wp2_with fail
      refine hg.mono ?_
      rintro e w4 ⟨rfl, hw⟩
      cases hw
      go_wp2
      go_ret
      exact ⟨rfl, hb⟩
    · obtain rfl : n = 1 := by omega
      rw [cholN_one (Nat.le_refl _)]
      go_enter Try.func77, Try.ntmps77
      go_wp2
      go_ret
      exact ⟨rfl, Below.refl _ _⟩
/-- the outer calls, where the sides may be -/
theorem need_Lu {m n c : Nat} {w : World} (hm : 1 ≤ m ∧ m ≤ 64) (hn : 1 ≤ n ∧ n ≤ m) (hc : 1 ≤ c) :
    Calls Try.prog 45 #[.int .i64 (m : Int), .int .i64 (n : Int), .int .i64 (c : Int)] w fun e W' => e = .returned (.tuple #[.int .i64 (luN m n c : Int), .int .i64 0]) ∧ Below w.heap.size w W' := by
  have hmay := need_may (c := (c : Int)) (argk_new .i64 [(m : Int), (n : Int)] w 3) (by simp)
  rw [show allS [(m : Int), (n : Int)] c = true by unfold allS; simp [List.range_succ, zat]; exact ⟨⟨sideB_iff.2 (by omega), sideB_iff.2 (by omega)⟩, by omega⟩] at hmay
  have hb : Below w.heap.size w (w.alloc (.cells #[.int .i64 (m : Int), .int .i64 (n : Int)] 3)) := (Below.refl _ w).alloc (Nat.le_refl _) _
  have h := fun w => need_lu hc n m w hn hm.2
  generalize luN m n c = R at *
  go_enter Try.func45, Try.ntmps45
  go_wp2_with fail
  refine hmay.mono ?_
  rintro e w1 ⟨rfl, hw⟩
  cases hw
  go_wp2_with fail
  refine (h _).mono ?_
  rintro e w1 ⟨rfl, b1⟩
  go_wp2
  go_ret2
  exact ⟨rfl, below_both hb b1⟩
theorem need_Chol {n c : Nat} {w : World} (hn : 1 ≤ n ∧ n ≤ 64) (hc : 1 ≤ c) :
    Calls Try.prog 46 #[.int .i64 (n : Int), .int .i64 (c : Int)] w fun e W' => e = .returned (.tuple #[.int .i64 (cholN n c : Int), .int .i64 0]) ∧ Below w.heap.size w W' := by
  have hmay := need_may (c := (c : Int)) (argk_new .i64 [(n : Int)] w 3) (by simp)
  rw [show allS [(n : Int)] c = true by unfold allS; simp [List.range_succ, zat]; exact ⟨sideB_iff.2 (by omega), by omega⟩] at hmay
  have hb : Below w.heap.size w (w.alloc (.cells #[.int .i64 (n : Int)] 3)) := (Below.refl _ w).alloc (Nat.le_refl _) _
  have h := fun w => need_chol hc n w hn
  generalize cholN n c = R at *
  go_enter Try.func46, Try.ntmps46
  go_wp2_with fail
  refine hmay.mono ?_
  rintro e w1 ⟨rfl, hw⟩
  cases hw
  go_wp2_with fail
  refine (h _).mono ?_
  rintro e w1 ⟨rfl, b1⟩
  go_wp2
  go_ret2
  exact ⟨rfl, below_both hb b1⟩
theorem need_Tri {n m c : Nat} {w : World} (hn : 1 ≤ n ∧ n ≤ 64) (hm : 1 ≤ m ∧ m ≤ 64) (hc : 1 ≤ c) :
    Calls Try.prog 44 #[.int .i64 (n : Int), .int .i64 (m : Int), .int .i64 (c : Int)] w fun e W' => e = .returned (.tuple #[.int .i64 (triN n m c : Int), .int .i64 0]) ∧ Below w.heap.size w W' := by
  have hmay := need_may (c := (c : Int)) (argk_new .i64 [(n : Int), (m : Int)] w 3) (by simp)
  rw [show allS [(n : Int), (m : Int)] c = true by unfold allS; simp [List.range_succ, zat]; exact ⟨⟨sideB_iff.2 (by omega), sideB_iff.2 (by omega)⟩, by omega⟩] at hmay
  have hb : Below w.heap.size w (w.alloc (.cells #[.int .i64 (n : Int), .int .i64 (m : Int)] 3)) := (Below.refl _ w).alloc (Nat.le_refl _) _
  have h := fun w => need_tri hc n m w hn hm
  generalize triN n m c = R at *
  go_enter Try.func44, Try.ntmps44
  go_wp2_with fail
  refine hmay.mono ?_
  rintro e w1 ⟨rfl, hw⟩
  cases hw
  go_wp2_with fail
  refine (h _).mono ?_
  rintro e w1 ⟨rfl, b1⟩
  go_wp2
  go_ret2
  exact ⟨rfl, below_both hb b1⟩
end Go.Proofs.Ytgppbimbampenaa
