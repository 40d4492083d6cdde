/- The law NeedTells: the document's count, Adds, outer calls whatever the sides. -/
import Derived.Test.YtgppbimbampenaaNeLaw
namespace Go.Proofs.Ytgppbimbampenaa
open Go.RowKit Go.Shelf
/-- what a halving adds -/
def addS (p q r : Nat) : Nat := 4 * p * q + 4 * q * r + 7 * p * r
theorem addS_le (p q r : Nat) (hp : 1 ≤ p) (hq : 1 ≤ q) (hr : 1 ≤ r) : addS p q r ≤ 15 * (p * q * r) := by
  have a : p * q * 1 ≤ p * q * r := Nat.mul_le_mul_left _ hr
  have b : 1 * (q * r) ≤ p * (q * r) := Nat.mul_le_mul_right _ hp
  have d : p * 1 * r ≤ p * q * r := Nat.mul_le_mul_right _ (Nat.mul_le_mul_left _ hq)
  rw [← Nat.mul_assoc p q r] at b
  unfold addS
  rw [Nat.mul_assoc 4, Nat.mul_assoc 4, Nat.mul_assoc 7]
  simp only [Nat.mul_one, Nat.one_mul] at a b d
  omega
theorem w_adds {p q r : Nat} (hp : p ≤ 64) (hq : q ≤ 64) (hr : r ≤ 64) :
    wrap64 (wrap64 (wrap64 (4 * (p : Int) * (q : Int)) + wrap64 (4 * (q : Int) * (r : Int))) + wrap64 (7 * (p : Int) * (r : Int))) = ((addS p q r : Nat) : Int) := by
  have a1 := mul_top (show 4 * p ≤ 256 by omega) hq (show 256 * 64 ≤ 16384 by decide)
  have a2 := mul_top (show 4 * q ≤ 256 by omega) hr (show 256 * 64 ≤ 16384 by decide)
  have a3 := mul_top (show 7 * p ≤ 448 by omega) hr (show 448 * 64 ≤ 28672 by decide)
  exact wadd (wadd (wmul (X := 4 * p) (by omega) rfl (by omega)) (wmul (X := 4 * q) (by omega) rfl (by omega)) (by omega)) (wmul (X := 7 * p) (by omega) rfl (by omega)) (by omega)
theorem enters_adds : Enters 78 := enters_of Try.func78 (by kernel_rfl) rfl
theorem adds_calls (p q r : Nat) (W : World) (hp : p ≤ 64) (hq : q ≤ 64) (hr : r ≤ 64) : Calls Try.prog 78 (#[.int .i64 (p : Int), .int .i64 (q : Int), .int .i64 (r : Int)] ++ #[]) W fun e W' => e = .returned (.int .i64 ((addS p q r : Nat) : Int)) ∧ W = W' := by
  show Calls Try.prog 78 #[.int .i64 (p : Int), .int .i64 (q : Int), .int .i64 (r : Int)] W _
  have HW := Lib.hid (w_adds hp hq hr)
  generalize addS p q r = N at *
  go_enter Try.func78, Try.ntmps78
  go_wp2
  go_ret
  exact ⟨by rw [← HW.out]; rfl, rfl⟩
theorem need_adds {m k n c : Nat} {w : World} (hm : 1 ≤ m ∧ m ≤ 64) (hk : 1 ≤ k ∧ k ≤ 64) (hn : 1 ≤ n ∧ n ≤ 64) (hc : 1 ≤ c) :
    Calls Try.prog 47 #[.int .i64 (m : Int), .int .i64 (k : Int), .int .i64 (n : Int), .int .i64 (c : Int)] w fun e W' => e = .returned (.tuple #[.int .i64 (cntN addS m k n c : Int), .int .i64 0]) ∧ Below w.heap.size w W' := by
  have h := need_count (S := addS) enters_adds addS_le (fun p q r W hp hq hr => adds_calls p q r W hp hq hr) hc m k n w hm hk hn
  generalize cntN addS m k n c = N at *
  go_enter Try.func47, Try.ntmps47
  go_wp2_with fail
  refine h.mono ?_
  rintro e w1 ⟨rfl, b1⟩
  clear h
  go_wp2
  go_ret2
  exact ⟨rfl, b1⟩
/-- sides that may not be -/
theorem need_count_no {m k n c : Int} {v : Value} {w : World} (h : (sideB m && sideB k && sideB n && decide (1 ≤ c)) = false) :
    Calls Try.prog 72 #[.int .i64 m, .int .i64 k, .int .i64 n, .int .i64 c, v] w fun e W' => e = .returned (.tuple #[.int .i64 0, .int .i64 4]) ∧ Below w.heap.size w W' := by
  have hmay := need_may (c := c) (argk_new .i64 [m, k, n] w 3) (by simp)
  rw [allS_three, h] at hmay
  have hb : Below w.heap.size w (w.alloc (.cells #[.int .i64 m, .int .i64 k, .int .i64 n] 3)) := (Below.refl _ w).alloc (Nat.le_refl _) _
  clear h
  go_enter Try.func72, Try.ntmps72
  go_wp2_with fail
  refine hmay.mono ?_
  rintro e w1 ⟨rfl, hw1⟩
  cases hw1
  go_wp2
  go_ret2
  exact ⟨rfl, hb⟩
def allB (m k n c : Int) : Bool := sideB m && sideB k && sideB n && decide (1 ≤ c)
theorem allB_iff {m k n c : Int} : allB m k n c = true ↔ (1 ≤ m ∧ m ≤ 64) ∧ (1 ≤ k ∧ k ≤ 64) ∧ (1 ≤ n ∧ n ≤ 64) ∧ 1 ≤ c := by
  simp [allB, sideB_iff, and_assoc]
theorem need_Muls {m k n c : Int} {w : World} : Calls Try.prog 43 #[.int .i64 m, .int .i64 k, .int .i64 n, .int .i64 c] w fun e W' =>
    e = .returned (.tuple #[.int .i64 (if allB m k n c then (cntN (fun _ _ _ => 0) m.toNat k.toNat n.toNat c.toNat : Int) else 0), .int .i64 (if allB m k n c then 0 else 4)]) ∧ Below w.heap.size w W' := by
  cases h : allB m k n c
  · have hc := fun v => need_count_no (v := v) (w := w) h
    simp only [Bool.false_eq_true, if_false]
    clear h
    go_enter Try.func43, Try.ntmps43
    go_wp2_with fail
    refine (hc _).mono ?_
    rintro e w1 ⟨rfl, b1⟩
    go_wp2
    go_ret2
    exact ⟨rfl, b1⟩
  · have q := allB_iff.1 h
    simp only [if_true]
    have := need_muls (m := m.toNat) (k := k.toNat) (n := n.toNat) (c := c.toNat) (w := w) (by omega) (by omega) (by omega) (by omega)
    rwa [Int.toNat_of_nonneg (by omega), Int.toNat_of_nonneg (by omega), Int.toNat_of_nonneg (by omega), Int.toNat_of_nonneg (by omega)] at this
theorem need_Adds {m k n c : Int} {w : World} : Calls Try.prog 47 #[.int .i64 m, .int .i64 k, .int .i64 n, .int .i64 c] w fun e W' =>
    e = .returned (.tuple #[.int .i64 (if allB m k n c then (cntN addS m.toNat k.toNat n.toNat c.toNat : Int) else 0), .int .i64 (if allB m k n c then 0 else 4)]) ∧ Below w.heap.size w W' := by
  cases h : allB m k n c
  · have hc := fun v => need_count_no (v := v) (w := w) h
    simp only [Bool.false_eq_true, if_false]
    clear h
    go_enter Try.func47, Try.ntmps47
    go_wp2_with fail
    refine (hc _).mono ?_
    rintro e w1 ⟨rfl, b1⟩
    go_wp2
    go_ret2
    exact ⟨rfl, b1⟩
  · have q := allB_iff.1 h
    simp only [if_true]
    have := need_adds (m := m.toNat) (k := k.toNat) (n := n.toNat) (c := c.toNat) (w := w) (by omega) (by omega) (by omega) (by omega)
    rwa [Int.toNat_of_nonneg (by omega), Int.toNat_of_nonneg (by omega), Int.toNat_of_nonneg (by omega), Int.toNat_of_nonneg (by omega)] at this
theorem need_Product {m k n c : Int} {w : World} : Calls Try.prog 42 #[.int .i64 m, .int .i64 k, .int .i64 n, .int .i64 c] w fun e W' =>
    e = .returned (.tuple #[.int .i64 (if allB m k n c then (needN m.toNat k.toNat n.toNat c.toNat : Int) else 0), .int .i64 (if allB m k n c then 0 else 4)]) ∧ Below w.heap.size w W' := by
  cases h : allB m k n c
  · have hc := fun w => wi_need_no (w := w) h
    simp only [Bool.false_eq_true, if_false]
    clear h
    go_enter Try.func42, Try.ntmps42
    go_wp2_with fail
    refine (hc _).mono ?_
    rintro e w1 ⟨rfl, rfl⟩
    go_wp2
    go_ret2
    exact ⟨rfl, Below.refl _ _⟩
  · have q := allB_iff.1 h
    simp only [if_true]
    have := need_product (m := m.toNat) (k := k.toNat) (n := n.toNat) (c := c.toNat) (w := w) (by omega) (by omega) (by omega) (by omega)
    rw [Int.toNat_of_nonneg (by omega), Int.toNat_of_nonneg (by omega), Int.toNat_of_nonneg (by omega), Int.toNat_of_nonneg (by omega)] at this
    exact this.mono fun e W' ⟨h1, h2⟩ => ⟨h1, h2 ▸ Below.refl _ _⟩
def twoB (m n c : Int) : Bool := sideB m && sideB n && decide (1 ≤ c)
theorem twoB_iff {m n c : Int} : twoB m n c = true ↔ (1 ≤ m ∧ m ≤ 64) ∧ (1 ≤ n ∧ n ≤ 64) ∧ 1 ≤ c := by
  simp [twoB, sideB_iff, and_assoc]
theorem allS_two {m n c : Int} : allS [m, n] c = twoB m n c := by
  unfold allS twoB
  simp [List.range_succ, zat]
theorem twoB_comm (m n c : Int) : twoB m n c = twoB n m c := by unfold twoB; rw [Bool.and_comm (sideB m)]
theorem need_Tri_any {m n c : Int} {w : World} : Calls Try.prog 44 #[.int .i64 n, .int .i64 m, .int .i64 c] w fun e W' =>
    e = .returned (.tuple #[.int .i64 (if twoB m n c then (triN n.toNat m.toNat c.toNat : Int) else 0), .int .i64 (if twoB m n c then 0 else 4)]) ∧ Below w.heap.size w W' := by
  cases h : twoB m n c
  · have hmay := need_may (c := c) (argk_new .i64 [n, m] w 3) (by simp)
    rw [allS_two, twoB_comm, h] at hmay
    have hb : Below w.heap.size w (w.alloc (.cells #[.int .i64 n, .int .i64 m] 3)) := (Below.refl _ w).alloc (Nat.le_refl _) _
    simp only [Bool.false_eq_true, if_false]
    clear h
    go_enter Try.func44, Try.ntmps44
    go_wp2_with fail
    refine hmay.mono ?_
    rintro e w1 ⟨rfl, hw1⟩
    cases hw1
    go_wp2
    go_ret2
    exact ⟨rfl, hb⟩
  · have q := twoB_iff.1 h
    simp only [if_true]
    have := need_Tri (m := m.toNat) (n := n.toNat) (c := c.toNat) (w := w) (by omega) (by omega) (by omega)
    rwa [Int.toNat_of_nonneg (by omega), Int.toNat_of_nonneg (by omega), Int.toNat_of_nonneg (by omega)] at this
def luB (m n c : Int) : Bool := twoB m n c && decide (n ≤ m)
theorem need_Lu_any {m n c : Int} {w : World} : Calls Try.prog 45 #[.int .i64 m, .int .i64 n, .int .i64 c] w fun e W' =>
    e = .returned (.tuple #[.int .i64 (if luB m n c then (luN m.toNat n.toNat c.toNat : Int) else 0), .int .i64 (if luB m n c then 0 else 4)]) ∧ Below w.heap.size w W' := by
  cases h : luB m n c
  · have hmay := need_may (c := c) (argk_new .i64 [m, n] w 3) (by simp)
    rw [allS_two] at hmay
    have hb : Below w.heap.size w (w.alloc (.cells #[.int .i64 m, .int .i64 n] 3)) := (Below.refl _ w).alloc (Nat.le_refl _) _
    simp only [Bool.false_eq_true, if_false]
    cases h2 : twoB m n c
    · rw [h2] at hmay
      clear h h2
      go_enter Try.func45, Try.ntmps45
      go_wp2_with fail
      refine hmay.mono ?_
      rintro e w1 ⟨rfl, hw1⟩
      cases hw1
      go_wp2
      go_ret2
      exact ⟨rfl, hb⟩
    · rw [h2] at hmay
      have h3 : m < n := by
        unfold luB at h
        rw [h2, Bool.true_and, decide_eq_false_iff_not] at h
        omega
      clear h h2
      go_enter Try.func45, Try.ntmps45
      go_wp2_with fail
      refine hmay.mono ?_
      rintro e w1 ⟨rfl, hw1⟩
      cases hw1
      go_wp2
      go_ret2
      exact ⟨rfl, hb⟩
  · have q : twoB m n c = true ∧ n ≤ m := by
      unfold luB at h
      simpa using h
    have q2 := twoB_iff.1 q.1
    simp only [if_true]
    have := need_Lu (m := m.toNat) (n := n.toNat) (c := c.toNat) (w := w) (by omega) (by omega) (by omega)
    rwa [Int.toNat_of_nonneg (by omega), Int.toNat_of_nonneg (by omega), Int.toNat_of_nonneg (by omega)] at this
def oneB (n c : Int) : Bool := sideB n && decide (1 ≤ c)
theorem need_Chol_any {n c : Int} {w : World} : Calls Try.prog 46 #[.int .i64 n, .int .i64 c] w fun e W' =>
    e = .returned (.tuple #[.int .i64 (if oneB n c then (cholN n.toNat c.toNat : Int) else 0), .int .i64 (if oneB n c then 0 else 4)]) ∧ Below w.heap.size w W' := by
  cases h : oneB n c
  · have hmay := need_may (c := c) (argk_new .i64 [n] w 3) (by simp)
    rw [show allS [n] c = oneB n c by unfold allS oneB; simp [List.range_succ, zat], h] at hmay
    have hb : Below w.heap.size w (w.alloc (.cells #[.int .i64 n] 3)) := (Below.refl _ w).alloc (Nat.le_refl _) _
    simp only [Bool.false_eq_true, if_false]
    clear h
    go_enter Try.func46, Try.ntmps46
    go_wp2_with fail
    refine hmay.mono ?_
    rintro e w1 ⟨rfl, hw1⟩
    cases hw1
    go_wp2
    go_ret2
    exact ⟨rfl, hb⟩
  · have q : (1 ≤ n ∧ n ≤ 64) ∧ 1 ≤ c := by
      unfold oneB at h
      rw [Bool.and_eq_true, sideB_iff, decide_eq_true_eq] at h
      exact h
    simp only [if_true]
    have := need_Chol (n := n.toNat) (c := c.toNat) (w := w) (by omega) (by omega)
    rwa [Int.toNat_of_nonneg (by omega), Int.toNat_of_nonneg (by omega)] at this
theorem w_seven {H D : Nat} (h : 7 * H + D ≤ 3932160) : wrap64 (wrap64 (7 * (H : Int)) + (D : Int)) = ((7 * H + D : Nat) : Int) := by
  rw [IntWalk.wrap64_in (7 * (H : Int)) (by omega), IntWalk.wrap64_in _ (by omega)]
  omega
theorem w_all {H D p q r : Nat} (hp : p ≤ 64) (hq : q ≤ 64) (hr : r ≤ 64) (h : 7 * H + addS (p / 2) (q / 2) (r / 2) + D ≤ 3932160) :
    wrap64 (wrap64 (wrap64 (wrap64 (wrap64 (7 * (H : Int)) + wrap64 (4 * ((p : Int) / 2) * ((q : Int) / 2))) + wrap64 (4 * ((q : Int) / 2) * ((r : Int) / 2))) + wrap64 (7 * ((p : Int) / 2) * ((r : Int) / 2))) + (D : Int)) = ((7 * H + addS (p / 2) (q / 2) (r / 2) + D : Nat) : Int) := by
  rw [half_z, half_z, half_z]
  unfold addS at h ⊢
  have a1 := mul_top (show 4 * (p / 2) ≤ 256 by omega) (show q / 2 ≤ 64 by omega) (show 256 * 64 ≤ 16384 by decide)
  have a2 := mul_top (show 4 * (q / 2) ≤ 256 by omega) (show r / 2 ≤ 64 by omega) (show 256 * 64 ≤ 16384 by decide)
  have a3 := mul_top (show 7 * (p / 2) ≤ 448 by omega) (show r / 2 ≤ 64 by omega) (show 448 * 64 ≤ 28672 by decide)
  have g := wadd (wadd (wadd (wadd (wmul (x := 7) (y := (H : Int)) (X := 7) rfl rfl (by omega)) (wmul (x := 4 * ((p / 2 : Nat) : Int)) (y := ((q / 2 : Nat) : Int)) (X := 4 * (p / 2)) (by omega) rfl (by omega)) (by omega)) (wmul (x := 4 * ((q / 2 : Nat) : Int)) (y := ((r / 2 : Nat) : Int)) (X := 4 * (q / 2)) (by omega) rfl (by omega)) (by omega)) (wmul (x := 7 * ((p / 2 : Nat) : Int)) (y := ((r / 2 : Nat) : Int)) (X := 7 * (p / 2)) (by omega) rfl (by omega)) (by omega)) (show (D : Int) = (D : Int) from rfl) (by omega)
  rw [g]
  congr 1
  omega
end Go.Proofs.Ytgppbimbampenaa
