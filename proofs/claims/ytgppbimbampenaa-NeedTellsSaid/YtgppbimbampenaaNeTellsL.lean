/- The law NeedTells, walked to its end. -/
import Derived.Test.YtgppbimbampenaaNeTellsW
namespace Go.Proofs.Ytgppbimbampenaa
open Go.RowKit Go.Shelf
set_option maxRecDepth 100000 in
set_option maxHeartbeats 8000000 in
theorem needTells_calls {m k n c : Int} {w : World} :
    Calls Try.prog 12 #[.int .i64 m, .int .i64 k, .int .i64 n, .int .i64 c] w fun e W' => e = .returned (.bool true) ∧ Below w.heap.size w W' := by
  have hal := l27_alive (w := w)
  have p1 := fun w => need_Product (m := m) (k := k) (n := n) (c := c) (w := w)
  have p2 := fun w => need_Tri_any (m := m) (n := n) (c := c) (w := w)
  have p3 := fun w => need_Lu_any (m := m) (n := n) (c := c) (w := w)
  have p4 := fun w => need_Chol_any (n := n) (c := c) (w := w)
  have p5 := fun w => need_Muls (m := m) (k := k) (n := n) (c := c) (w := w)
  have p6 := fun w => need_Adds (m := m) (k := k) (n := n) (c := c) (w := w)
  have s1 := fun w => l27_side (n := m) (w := w)
  have s2 := fun w => l27_side (n := k) (w := w)
  have s3 := fun w => l27_side (n := n) (w := w)
  have q1 : Hid (allB m k n c = true → ∀ w, Calls Try.prog 49 #[.int .i64 m, .int .i64 k, .int .i64 n, .int .i64 c] w fun e W' => e = .returned (.int .i64 (needN m.toNat k.toNat n.toNat c.toNat : Int)) ∧ Below w.heap.size w W') := Lib.hid (fun h w => by
    have q := allB_iff.1 h
    have := l27_words (m := m.toNat) (k := k.toNat) (n := n.toNat) (c := c.toNat) (w := w) (by omega) (by omega) (by omega) (by omega)
    rwa [Int.toNat_of_nonneg (by omega), Int.toNat_of_nonneg (by omega), Int.toNat_of_nonneg (by omega), Int.toNat_of_nonneg (by omega)] at this)
  have q2 : Hid (allB m k n c = true → ∀ w, Calls Try.prog 50 #[.int .i64 m, .int .i64 k, .int .i64 n, .int .i64 c] w fun e W' => e = .returned (.tuple #[.int .i64 (cntN (fun _ _ _ => 0) m.toNat k.toNat n.toNat c.toNat : Int), .int .i64 (cntN addS m.toNat k.toNat n.toNat c.toNat : Int)]) ∧ Below w.heap.size w W') := Lib.hid (fun h w => by
    have q := allB_iff.1 h
    have := l27_count (c := c.toNat) (by omega) m.toNat k.toNat n.toNat w (by omega) (by omega) (by omega)
    rwa [Int.toNat_of_nonneg (by omega), Int.toNat_of_nonneg (by omega), Int.toNat_of_nonneg (by omega), Int.toNat_of_nonneg (by omega)] at this)
  have q3 : Hid (twoB m n c = true → ∀ w, Calls Try.prog 51 #[.int .i64 n, .int .i64 m, .int .i64 c] w fun e W' => e = .returned (.int .i64 (triN n.toNat m.toNat c.toNat : Int)) ∧ Below w.heap.size w W') := Lib.hid (fun h w => by
    have q := twoB_iff.1 h
    have := l27_tri (c := c.toNat) (by omega) n.toNat m.toNat w (by omega) (by omega)
    rwa [Int.toNat_of_nonneg (by omega), Int.toNat_of_nonneg (by omega), Int.toNat_of_nonneg (by omega)] at this)
  have q4 : Hid (luB m n c = true → ∀ w, Calls Try.prog 52 #[.int .i64 m, .int .i64 n, .int .i64 c] w fun e W' => e = .returned (.int .i64 (luN m.toNat n.toNat c.toNat : Int)) ∧ Below w.heap.size w W') := Lib.hid (fun h w => by
    have q : twoB m n c = true ∧ n ≤ m := by unfold luB at h; simpa using h
    have q' := twoB_iff.1 q.1
    have := l27_lu (c := c.toNat) (by omega) n.toNat m.toNat w (by omega) (by omega)
    rwa [Int.toNat_of_nonneg (by omega), Int.toNat_of_nonneg (by omega), Int.toNat_of_nonneg (by omega)] at this)
  have q5 : Hid (oneB n c = true → ∀ w, Calls Try.prog 53 #[.int .i64 n, .int .i64 c] w fun e W' => e = .returned (.int .i64 (cholN n.toNat c.toNat : Int)) ∧ Below w.heap.size w W') := Lib.hid (fun h w => by
    have q : (1 ≤ n ∧ n ≤ 64) ∧ 1 ≤ c := by
      unfold oneB at h
      rw [Bool.and_eq_true, sideB_iff, decide_eq_true_eq] at h
      exact h
    have := l27_chol (c := c.toNat) (by omega) n.toNat w (by omega)
    rwa [Int.toNat_of_nonneg (by omega), Int.toNat_of_nonneg (by omega)] at this)
  have HAL := Lib.hid (show allB m k n c = (sideB m && sideB k && sideB n && decide (1 ≤ c)) from rfl)
  have HTW := Lib.hid (show twoB m n c = (sideB m && sideB n && decide (1 ≤ c)) from rfl)
  have HLU := Lib.hid (show luB m n c = (twoB m n c && decide (n ≤ m)) from rfl)
  have HON := Lib.hid (show oneB n c = (sideB n && decide (1 ≤ c)) from rfl)
  generalize allB m k n c = AL at *
  generalize luB m n c = LU at *
  generalize twoB m n c = TW at *
  generalize oneB n c = ON at *
  generalize sideB m = sm at *
  generalize sideB k = sk at *
  generalize sideB n = sn at *
  generalize needN m.toNat k.toNat n.toNat c.toNat = NA at *
  generalize cntN (fun _ _ _ => 0) m.toNat k.toNat n.toNat c.toNat = NX at *
  generalize cntN addS m.toNat k.toNat n.toNat c.toNat = NY at *
  generalize triN n.toNat m.toNat c.toNat = NT at *
  generalize luN m.toNat n.toNat c.toNat = NL at *
  generalize cholN n.toNat c.toNat = NC at *
  have letters : ∀ (b : Bool) (X : Nat), ∃ x e : Int, x = (if b then (X : Int) else 0) ∧ e = (if b then (0 : Int) else 4) := fun b X => ⟨_, _, rfl, rfl⟩
  obtain ⟨x1, e1, X1, E1⟩ := letters AL NA
  obtain ⟨x2, e2, X2, E2⟩ := letters TW NT
  obtain ⟨x3, e3, X3, E3⟩ := letters LU NL
  obtain ⟨x4, e4, X4, E4⟩ := letters ON NC
  obtain ⟨x5, e5, X5, E5⟩ := letters AL NX
  obtain ⟨x6, e6, X6, E6⟩ := letters AL NY
  have t1 := fun w => l27_told (b := AL) (X := NA) (w := w)
  have t2 := fun w => l27_told (b := TW) (X := NT) (w := w)
  have t3 := fun w => l27_told (b := LU) (X := NL) (w := w)
  have t4 := fun w => l27_told (b := ON) (X := NC) (w := w)
  have t5 := fun w => l27_told (b := AL) (X := NX) (w := w)
  have t6 := fun w => l27_told (b := AL) (X := NY) (w := w)
  rw [← X1, ← E1] at p1 t1
  rw [← X2, ← E2] at p2 t2
  rw [← X3, ← E3] at p3 t3
  rw [← X4, ← E4] at p4 t4
  rw [← X5, ← E5] at p5 t5
  rw [← X6, ← E6] at p6 t6
  have Y1 := Lib.hid X1
  have Y2 := Lib.hid X2
  have Y3 := Lib.hid X3
  have Y4 := Lib.hid X4
  have Y5 := Lib.hid X5
  have Y6 := Lib.hid X6
  clear X1 X2 X3 X4 X5 X6 E1 E2 E3 E4 E5 E6 letters
  have P := Lib.hid (And.intro p1 (And.intro p2 (And.intro p3 (And.intro p4 (And.intro p5 p6)))))
  have S := Lib.hid (And.intro s1 (And.intro s2 s3))
  have T := Lib.hid (And.intro t1 (And.intro t2 (And.intro t3 (And.intro t4 (And.intro t5 t6)))))
  clear p1 p2 p3 p4 p5 p6 s1 s2 s3 t1 t2 t3 t4 t5 t6
  go_enter Try.func12, Try.ntmps12
  go_wp2_with fail
  refine hal.mono ?_
  rintro e W1 ⟨rfl, b1⟩
  clear hal
  go_wp2_with fail
  refine (P.out.1 _).mono ?_
  rintro e W2 ⟨rfl, b2⟩
  replace b1 := below_both b1 b2
  clear b2
  go_wp2_with fail
  refine (P.out.2.1 _).mono ?_
  rintro e W2 ⟨rfl, b2⟩
  replace b1 := below_both b1 b2
  clear b2
  go_wp2_with fail
  refine (P.out.2.2.1 _).mono ?_
  rintro e W2 ⟨rfl, b2⟩
  replace b1 := below_both b1 b2
  clear b2
  go_wp2_with fail
  refine (P.out.2.2.2.1 _).mono ?_
  rintro e W2 ⟨rfl, b2⟩
  replace b1 := below_both b1 b2
  clear b2
  go_wp2_with fail
  refine (P.out.2.2.2.2.1 _).mono ?_
  rintro e W2 ⟨rfl, b2⟩
  replace b1 := below_both b1 b2
  clear b2
  go_wp2_with fail
  refine (P.out.2.2.2.2.2 _).mono ?_
  rintro e W2 ⟨rfl, b2⟩
  replace b1 := below_both b1 b2
  clear b2 P
  go_upto_region 10 with (fail)
  go_cut [22] from 78 to 90 (fun u wx => u = .bool AL ∧ wx = W2)
  case first =>
    have hh := HAL.out
    have ss := S.out
    cases sm <;> cases sk <;> cases sn <;> (
      simp only [Bool.false_and, Bool.true_and] at hh
      go_wp2_with (first
        | (go_at_call 48; first | (with_reducible refine (ss.1 _).mono ?_; rintro e w1 ⟨rfl, rfl⟩) | (with_reducible refine (ss.2.1 _).mono ?_; rintro e w1 ⟨rfl, rfl⟩) | (with_reducible refine (ss.2.2 _).mono ?_; rintro e w1 ⟨rfl, rfl⟩)))
      go_meet
      exact ⟨by rw [hh], rfl⟩)
  obtain ⟨rfl, hw3⟩ := hcut
  cases hw3
  go_upto_region 11 with (fail)
  go_cut [23] from 91 to 99 (fun u wx => u = .bool TW ∧ wx = W2)
  case first =>
    have hh := HTW.out
    have ss := S.out
    cases sm <;> cases sn <;> (
      simp only [Bool.false_and, Bool.true_and] at hh
      go_wp2_with (first
        | (go_at_call 48; first | (with_reducible refine (ss.1 _).mono ?_; rintro e w1 ⟨rfl, rfl⟩) | (with_reducible refine (ss.2.2 _).mono ?_; rintro e w1 ⟨rfl, rfl⟩)))
      go_meet
      exact ⟨by rw [hh], rfl⟩)
  obtain ⟨rfl, hw3⟩ := hcut
  cases hw3
  go_upto_if 100 with (fail)
  go_cut [24, 28, 29] from 100 to 113 (fun u v x wx => u = .int .i64 x1 ∧ v = .int .i64 x5 ∧ x = .int .i64 x6 ∧ Below w.heap.size w wx)
  case first =>
    have y1 := Y1.out
    have y5 := Y5.out
    have y6 := Y6.out
    cases AL
    · simp only [Bool.false_eq_true, if_false] at y1 y5 y6
      subst y1 y5 y6
      go_wp2
      go_meet
      exact ⟨rfl, rfl, rfl, b1⟩
    · simp only [if_true] at y1 y5 y6
      subst y1 y5 y6
      have g1 := q1.out rfl
      have g2 := q2.out rfl
      go_wp2_with fail
      refine (g1 _).mono ?_
      rintro e w3 ⟨rfl, b3⟩
      replace b1 := below_both b1 b3
      go_wp2_with fail
      refine (g2 _).mono ?_
      rintro e w4 ⟨rfl, b3⟩
      replace b1 := below_both b1 b3
      clear g1 g2
      go_wp2
      go_meet
      exact ⟨rfl, rfl, rfl, b1⟩
  obtain ⟨rfl, rfl, rfl, hB⟩ := hcut
  clear b1 q1 q2
  obtain ⟨W3, rfl⟩ : ∃ W3, W3 = wc := ⟨_, rfl⟩
  go_upto_if 114 with (fail)
  go_cut [25] from 114 to 118 (fun u wx => u = .int .i64 x2 ∧ Below w.heap.size w wx)
  case first =>
    have y2 := Y2.out
    cases TW
    · simp only [Bool.false_eq_true, if_false] at y2
      subst y2
      go_wp2
      go_meet
      exact ⟨rfl, hB⟩
    · simp only [if_true] at y2
      subst y2
      have g1 := q3.out rfl
      go_wp2_with fail
      refine (g1 _).mono ?_
      rintro e w3 ⟨rfl, b3⟩
      replace hB := below_both hB b3
      clear g1
      go_wp2
      go_meet
      exact ⟨rfl, hB⟩
  obtain ⟨rfl, hB2⟩ := hcut
  clear hB q3
  obtain ⟨W4, rfl⟩ : ∃ W4, W4 = wc := ⟨_, rfl⟩
  go_upto_region 18 with (fail)
  go_cut [124] from 119 to 124 (fun u wx => u = .bool LU ∧ wx = W4)
  case first =>
    have hh := HLU.out
    cases TW <;> (
      simp only [Bool.false_and, Bool.true_and] at hh
      go_wp2
      go_meet
      exact ⟨by rw [hh], rfl⟩)
  obtain ⟨rfl, hw3⟩ := hcut
  cases hw3
  go_upto_if 124 with (fail)
  go_cut [26] from 124 to 128 (fun u wx => u = .int .i64 x3 ∧ Below w.heap.size w wx)
  case first =>
    have y3 := Y3.out
    cases LU
    · simp only [Bool.false_eq_true, if_false] at y3
      subst y3
      go_wp2
      go_meet
      exact ⟨rfl, hB2⟩
    · simp only [if_true] at y3
      subst y3
      have g1 := q4.out rfl
      go_wp2_with fail
      refine (g1 _).mono ?_
      rintro e w3 ⟨rfl, b3⟩
      replace hB2 := below_both hB2 b3
      clear g1
      go_wp2
      go_meet
      exact ⟨rfl, hB2⟩
  obtain ⟨rfl, hB⟩ := hcut
  clear hB2 q4
  obtain ⟨W5, rfl⟩ : ∃ W5, W5 = wc := ⟨_, rfl⟩
  go_upto_region 20 with (fail)
  go_cut [133] from 129 to 133 (fun u wx => u = .bool ON ∧ wx = W5)
  case first =>
    have hh := HON.out
    have ss := S.out.2.2
    cases sn <;> (
      simp only [Bool.false_and, Bool.true_and] at hh
      go_wp2_with (go_at_call 48; refine (ss _).mono ?_; rintro e w1 ⟨rfl, rfl⟩)
      go_meet
      exact ⟨by rw [hh], rfl⟩)
  obtain ⟨rfl, hw3⟩ := hcut
  cases hw3
  go_upto_if 133 with (fail)
  go_cut [27] from 133 to 136 (fun u wx => u = .int .i64 x4 ∧ Below w.heap.size w wx)
  case first =>
    have y4 := Y4.out
    cases ON
    · simp only [Bool.false_eq_true, if_false] at y4
      subst y4
      go_wp2
      go_meet
      exact ⟨rfl, hB⟩
    · simp only [if_true] at y4
      subst y4
      have g1 := q5.out rfl
      go_wp2_with fail
      refine (g1 _).mono ?_
      rintro e w3 ⟨rfl, b3⟩
      replace hB := below_both hB b3
      clear g1
      go_wp2
      go_meet
      exact ⟨rfl, hB⟩
  obtain ⟨rfl, hB2⟩ := hcut
  clear hB q5 Y1 Y2 Y3 Y4 Y5 Y6
  obtain ⟨W6, rfl⟩ : ∃ W6, W6 = wc := ⟨_, rfl⟩
  have hh := HLU.out
  have ho := HON.out
  have tt := T.out
  have ss := S.out.2.2
  clear HLU HON T S
  cases TW <;> cases sn <;> (
    simp only [Bool.false_and, Bool.true_and] at hh ho
    subst hh ho
    go_wp2_with (first
      | (go_at_call 48; refine (ss _).mono ?_; rintro e w1 ⟨rfl, rfl⟩)
      | (go_at_call 54; first
        | (with_reducible refine (tt.1 _).mono ?_; rintro e w1 ⟨rfl, rfl⟩)
        | (with_reducible refine (tt.2.1 _).mono ?_; rintro e w1 ⟨rfl, rfl⟩)
        | (with_reducible refine (tt.2.2.1 _).mono ?_; rintro e w1 ⟨rfl, rfl⟩)
        | (with_reducible refine (tt.2.2.2.1 _).mono ?_; rintro e w1 ⟨rfl, rfl⟩)
        | (with_reducible refine (tt.2.2.2.2.1 _).mono ?_; rintro e w1 ⟨rfl, rfl⟩)
        | (with_reducible refine (tt.2.2.2.2.2 _).mono ?_; rintro e w1 ⟨rfl, rfl⟩)))
    go_ret
    exact ⟨rfl, hB2⟩)
end Go.Proofs.Ytgppbimbampenaa
