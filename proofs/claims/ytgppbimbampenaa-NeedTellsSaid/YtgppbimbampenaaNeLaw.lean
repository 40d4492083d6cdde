/- The law NeedTells: its helpers; need's outer calls, whatever the sides. -/
import Derived.Test.YtgppbimbampenaaNeTri
namespace Go.Proofs.Ytgppbimbampenaa
open Go.RowKit Go.Shelf
theorem l27_side {n : Int} {w : World} : Calls Try.prog 48 #[.int .i64 n] w fun e W' => e = .returned (.bool (sideB n)) ∧ w = W' := by
  by_cases k1 : 1 ≤ n
  · by_cases k2 : n ≤ 64
    · rw [show sideB n = true from decide_eq_true ⟨k1, k2⟩]
      go_enter Try.func48, Try.ntmps48
      go_wp2
      go_ret
      exact ⟨rfl, rfl⟩
    · rw [show sideB n = false from decide_eq_false (fun h => k2 h.2)]
      go_enter Try.func48, Try.ntmps48
      go_wp2
      go_ret
      exact ⟨rfl, rfl⟩
  · rw [show sideB n = false from decide_eq_false (fun h => k1 h.1)]
    go_enter Try.func48, Try.ntmps48
    go_wp2
    go_ret
    exact ⟨rfl, rfl⟩
theorem l27_words {m k n c : Nat} {w : World} (hm : 1 ≤ m ∧ m ≤ 64) (hk : 1 ≤ k ∧ k ≤ 64) (hn : 1 ≤ n ∧ n ≤ 64) (hc : 1 ≤ c) :
    Calls Try.prog 49 #[.int .i64 (m : Int), .int .i64 (k : Int), .int .i64 (n : Int), .int .i64 (c : Int)] w fun e W' => e = .returned (.int .i64 (needN m k n c : Int)) ∧ Below w.heap.size w W' := by
  have h := fun w => wi_need (w := w) hm hk hn hc
  generalize needN m k n c = N at *
  go_enter Try.func49, Try.ntmps49
  go_wp2_with fail
  refine (h _).mono ?_
  rintro e w1 ⟨rfl, rfl⟩
  clear h
  go_wp2
  go_ret
  exact ⟨rfl, by first | exact Below.refl _ _ | exact (Below.refl _ w).alloc (Nat.le_refl _) _⟩
set_option maxRecDepth 100000 in
set_option maxHeartbeats 4000000 in
theorem l27_tri {c : Nat} (hc : 1 ≤ c) (n : Nat) : ∀ (m : Nat) (w : World), 1 ≤ n ∧ n ≤ 64 → 1 ≤ m ∧ m ≤ 64 →
    Calls Try.prog 51 #[.int .i64 (n : Int), .int .i64 (m : Int), .int .i64 (c : Int)] w fun e W' => e = .returned (.int .i64 (triN n m c : Int)) ∧ Below w.heap.size w W' := by
  induction n using Nat.strongRecOn with
  | _ n ih =>
    intro m w hn hm
    rcases Nat.lt_or_ge 1 n with h | h
    · have hI1 := fun w => ih (n / 2) (by omega) m w (by omega) hm
      have hI2 := fun w => ih (n - n / 2) (by omega) m w (by omega) hm
      have hP := fun w => l27_words (m := n - n / 2) (k := n / 2) (n := m) (c := c) (w := w) (by omega) (by omega) hm hc
      have hG := fun w ts t => max_three w ts t (triN (n / 2) m c : Int) (triN (n - n / 2) m c : Int) (needN (n - n / 2) (n / 2) m c : Int)
      have eR : max (max (triN (n / 2) m c : Int) (triN (n - n / 2) m c : Int)) (needN (n - n / 2) (n / 2) m c : Int) = (triN n m c : Int) := by rw [triN_more h]; omega
      rw [eR] at hG
      clear eR
      generalize triN (n / 2) m c = X at *
      generalize triN (n - n / 2) m c = Y at *
      generalize needN (n - n / 2) (n / 2) m c = Z at *
      generalize triN n m c = R at *
      rw [show ((n - n / 2 : Nat) : Int) = (n : Int) - (n : Int) / 2 by omega] at hI2 hP
      rw [show ((n / 2 : Nat) : Int) = (n : Int) / 2 by omega] at hI1 hP
      have d : ((n : Int) == 1) = false := beq_eq_false_iff_ne.2 (by omega)
      clear ih h hm hc
      go_enter Try.func51, Try.ntmps51
      go_wp2_with fail
      refine (hI1 _).mono ?_
      rintro e w1 ⟨rfl, b1⟩
      go_wp2_with fail
      refine (hI2 _).mono ?_
      rintro e w2 ⟨rfl, b2⟩
      replace b1 := below_both b1 b2
      clear hI1 hI2 b2
      go_wp2_with fail
      refine (hP _).mono ?_
      rintro e w3 ⟨rfl, b2⟩
      replace b1 := below_both b1 b2
      clear hP b2
      go_wp2
      go_ret
      exact ⟨rfl, b1⟩
    · obtain rfl : n = 1 := by omega
      rw [triN_one (Nat.le_refl _)]
      go_enter Try.func51, Try.ntmps51
      go_wp2
      go_ret
      exact ⟨rfl, Below.refl _ _⟩
set_option maxRecDepth 100000 in
set_option maxHeartbeats 4000000 in
theorem l27_lu {c : Nat} (hc : 1 ≤ c) (n : Nat) : ∀ (m : Nat) (w : World), 1 ≤ n ∧ n ≤ m → m ≤ 64 →
    Calls Try.prog 52 #[.int .i64 (m : Int), .int .i64 (n : Int), .int .i64 (c : Int)] w fun e W' => e = .returned (.int .i64 (luN m n c : Int)) ∧ Below w.heap.size w W' := by
  induction n using Nat.strongRecOn with
  | _ n ih =>
    intro m w hn hm
    rcases Nat.lt_or_ge 1 n with h | h
    · have hI1 := fun w => ih (n / 2) (by omega) m w (by omega) hm
      have hI2 := fun w => ih (n - n / 2) (by omega) (m - n / 2) w (by omega) (by omega)
      have hT := fun w => l27_tri hc (n / 2) (n - n / 2) w (by omega) (by omega)
      have hP := fun w => l27_words (m := m - n / 2) (k := n / 2) (n := n - n / 2) (c := c) (w := w) (by omega) (by omega) (by omega) hc
      have hG := fun w ts t => max_four w ts t (luN m (n / 2) c : Int) (triN (n / 2) (n - n / 2) c : Int) (needN (m - n / 2) (n / 2) (n - n / 2) c : Int) (luN (m - n / 2) (n - n / 2) c : Int)
      have eR : max (max (max (luN m (n / 2) c : Int) (triN (n / 2) (n - n / 2) c : Int)) (needN (m - n / 2) (n / 2) (n - n / 2) c : Int)) (luN (m - n / 2) (n - n / 2) c : Int) = (luN m n c : Int) := by rw [luN_more h]; omega
      rw [eR] at hG
      clear eR
      generalize luN m (n / 2) c = X at *
      generalize triN (n / 2) (n - n / 2) c = Y at *
      generalize needN (m - n / 2) (n / 2) (n - n / 2) c = Z at *
      generalize luN (m - n / 2) (n - n / 2) c = V at *
      generalize luN m n c = R at *
      rw [show ((n - n / 2 : Nat) : Int) = (n : Int) - (n : Int) / 2 by omega] at hI2 hP hT
      rw [show ((m - n / 2 : Nat) : Int) = (m : Int) - (n : Int) / 2 by omega] at hI2 hP
      rw [show ((n / 2 : Nat) : Int) = (n : Int) / 2 by omega] at hI1 hP hT
      have d : ((n : Int) == 1) = false := beq_eq_false_iff_ne.2 (by omega)
      have g1 : (n : Int) ≤ 64 := by omega
      have g2 : (n : Int) ≤ (m : Int) := by omega
      clear ih h hc hn
      go_enter Try.func52, Try.ntmps52
      go_wp2_with fail
      refine (hI1 _).mono ?_
      rintro e w1 ⟨rfl, b1⟩
      go_wp2_with fail
      refine (hT _).mono ?_
      rintro e w2 ⟨rfl, b2⟩
      replace b1 := below_both b1 b2
      clear hI1 hT b2
      go_wp2_with fail
      refine (hP _).mono ?_
      rintro e w3 ⟨rfl, b2⟩
      replace b1 := below_both b1 b2
      clear hP b2
      go_wp2_with fail
      refine (hI2 _).mono ?_
      rintro e w4 ⟨rfl, b2⟩
      replace b1 := below_both b1 b2
      clear hI2 b2
      go_wp2
      go_ret
      exact ⟨rfl, b1⟩
    · obtain rfl : n = 1 := by omega
      rw [luN_one (Nat.le_refl _)]
      go_enter Try.func52, Try.ntmps52
      go_wp2
      go_ret
      exact ⟨rfl, Below.refl _ _⟩
set_option maxRecDepth 100000 in
set_option maxHeartbeats 4000000 in
theorem l27_chol {c : Nat} (hc : 1 ≤ c) (n : Nat) : ∀ (w : World), 1 ≤ n ∧ n ≤ 64 →
    Calls Try.prog 53 #[.int .i64 (n : Int), .int .i64 (c : Int)] w fun e W' => e = .returned (.int .i64 (cholN n c : Int)) ∧ Below w.heap.size w W' := by
  induction n using Nat.strongRecOn with
  | _ n ih =>
    intro w hn
    rcases Nat.lt_or_ge 1 n with h | h
    · have hI1 := fun w => ih (n / 2) (by omega) w (by omega)
      have hI2 := fun w => ih (n - n / 2) (by omega) w (by omega)
      have hT := fun w => l27_tri hc (n / 2) (n - n / 2) w (by omega) (by omega)
      have hP := fun w => l27_words (m := n - n / 2) (k := n / 2) (n := n - n / 2) (c := c) (w := w) (by omega) (by omega) (by omega) hc
      have hG := fun w ts t => max_four w ts t (cholN (n / 2) c : Int) (triN (n / 2) (n - n / 2) c : Int) (needN (n - n / 2) (n / 2) (n - n / 2) c : Int) (cholN (n - n / 2) c : Int)
      have eR : max (max (max (cholN (n / 2) c : Int) (triN (n / 2) (n - n / 2) c : Int)) (needN (n - n / 2) (n / 2) (n - n / 2) c : Int)) (cholN (n - n / 2) c : Int) = (cholN n c : Int) := by rw [cholN_more h]; omega
      rw [eR] at hG
      clear eR
      generalize cholN (n / 2) c = X at *
      generalize triN (n / 2) (n - n / 2) c = Y at *
      generalize needN (n - n / 2) (n / 2) (n - n / 2) c = Z at *
      generalize cholN (n - n / 2) c = V at *
      generalize cholN n c = R at *
      rw [show ((n - n / 2 : Nat) : Int) = (n : Int) - (n : Int) / 2 by omega] at hI2 hP hT
      rw [show ((n / 2 : Nat) : Int) = (n : Int) / 2 by omega] at hI1 hP hT
      have d : ((n : Int) == 1) = false := beq_eq_false_iff_ne.2 (by omega)
      have g1 : (n : Int) ≤ 64 := by omega
      clear ih h hc hn
      go_enter Try.func53, Try.ntmps53
      go_wp2_with fail
      refine (hI1 _).mono ?_
      rintro e w1 ⟨rfl, b1⟩
      go_wp2_with fail
      refine (hT _).mono ?_
      rintro e w2 ⟨rfl, b2⟩
      replace b1 := below_both b1 b2
      clear hI1 hT b2
      go_wp2_with fail
      refine (hP _).mono ?_
      rintro e w3 ⟨rfl, b2⟩
      replace b1 := below_both b1 b2
      clear hP b2
      go_wp2_with fail
      refine (hI2 _).mono ?_
      rintro e w4 ⟨rfl, b2⟩
      replace b1 := below_both b1 b2
      clear hI2 b2
      go_wp2
      go_ret
      exact ⟨rfl, b1⟩
    · obtain rfl : n = 1 := by omega
      rw [cholN_one (Nat.le_refl _)]
      go_enter Try.func53, Try.ntmps53
      go_wp2
      go_ret
      exact ⟨rfl, Below.refl _ _⟩
theorem l27_told {b : Bool} {X : Nat} {w : World} : Calls Try.prog 54 #[.int .i64 (if b then (X : Int) else 0), .int .i64 (if b then 0 else 4), .bool b, .int .i64 (if b then (X : Int) else 0)] w fun e W' => e = .returned (.bool true) ∧ w = W' := by
  cases b
  · simp only [Bool.false_eq_true, if_false]
    go_enter Try.func54, Try.ntmps54
    go_wp2
    go_ret
    exact ⟨rfl, rfl⟩
  · simp only [if_true]
    have d : ((X : Int) == (X : Int)) = true := by simp
    go_enter Try.func54, Try.ntmps54
    go_wp2
    go_ret
    exact ⟨rfl, rfl⟩
end Go.Proofs.Ytgppbimbampenaa
