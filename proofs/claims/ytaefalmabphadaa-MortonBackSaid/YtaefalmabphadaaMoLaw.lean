/- morton: Side, Size; vernierlaw16: spread, side, alive. -/
import Derived.Test.YtaefalmabphadaaMoWalk
namespace Go.Proofs.Ytaefalmabphadaa
open Go.RowKit Go.Shelf
set_option maxRecDepth 100000 in
set_option maxHeartbeats 4000000 in
theorem l_spread {i j : Int} {w : World} : Calls Try.prog 34 #[.int .i64 i, .int .i64 j] w fun e W' => e = .returned (.int .i64 ((spr (i % 65536).toNat (j % 65536).toNat 16 : Nat) : Int)) ∧ w = W' := by
  have hbi := fun (k : Nat) (hk : k < 16) => bitZ i hk
  have hbj := fun (k : Nat) (hk : k < 16) => bitZ j hk
  generalize (i % 65536).toNat = I at *
  generalize (j % 65536).toNat = J at *
  have HBI := Lib.hid hbi
  have HBJ := Lib.hid hbj
  clear hbi hbj
  go_enter Try.func34, Try.ntmps34
  go_wp2
  go_loop [5, 6, 7] (fun z p b => ∃ k n q : Nat, k ≤ 16 ∧ b = .int .i64 k ∧ z = .int .i64 n ∧ p = .int .i64 q ∧ Hid (n = spr I J k) ∧ Hid (q = 4 ^ k)) (fun _ _ b => 16 - (intOf b).toNat)
  case atStart => exact ⟨0, 0, 1, by omega, rfl, rfl, rfl, Lib.hid rfl, Lib.hid rfl⟩
  case round =>
    obtain ⟨k, n, q, hk, rfl, rfl, rfl, HN, HQ⟩ := hrel
    have hqb : q ≤ 4294967296 := by
      rw [HQ.out]
      exact Nat.le_trans (Nat.pow_le_pow_right (by decide) hk) (by decide)
    have hnb : n < q := by rw [HN.out, HQ.out]; exact spr_lt I J k
    by_cases hlt : k < 16
    · have h1 : (k : Int) < 16 := by omega
      have hs : IntKind.u64.wrap (k : Int) = (k : Int) := by rw [IntKind.wrap_u64]; omega
      have HS : Hid (spr I J (k + 1) = n + q * (J / 2 ^ k % 2 + 2 * (I / 2 ^ k % 2))) := Lib.hid (by rw [HN.out, HQ.out]; rfl)
      have H4 : Hid (4 * q = 4 ^ (k + 1)) := Lib.hid (by rw [HQ.out, Nat.pow_succ]; omega)
      have hbI := HBI.out k hlt
      have hbJ := HBJ.out k hlt
      generalize I / 2 ^ k = II at *
      generalize J / 2 ^ k = JJ at *
      rw [← and1] at hbI hbJ
      rcases Nat.mod_two_eq_zero_or_one II with e1 | e1 <;> rcases Nat.mod_two_eq_zero_or_one JJ with e2 | e2
      all_goals
        rw [e1] at hbI HS
        rw [e2] at hbJ HS
        replace hbI : bits .and .i64 (i / 2 ^ k) 1 = _ := hbI
        replace hbJ : bits .and .i64 (j / 2 ^ k) 1 = _ := hbJ
        simp only [Int.natCast_zero, Int.natCast_one, Int.ofNat_zero, Int.ofNat_one] at hbI hbJ
        clear e1 e2
        go_wp2
        refine ⟨⟨k + 1, _, 4 * q, by omega, by simp, ?_, by simp, Lib.hid HS.out.symm, Lib.hid H4.out⟩, by simp [intOf]; omega⟩
        congr 1
        try omega
    · have hge : decide ((k : Int) < 16) = false := decide_eq_false (by omega)
      go_wp2
      go_ret
      exact ⟨by rw [HN.out, show k = 16 by omega]; rfl, rfl⟩
/-- how many tiles: doubled as long as they do not reach -/
def sdF (M t : Nat) : Nat → Nat → Nat
  | 0, s => s
  | f + 1, s => if s * t < M then sdF M t f (2 * s) else s
def sdn (M t : Nat) : Nat := sdF M t 7 1
theorem sdF_stop {M t s : Nat} (h : ¬ s * t < M) (f : Nat) : sdF M t f s = s := by
  cases f with
  | zero => rfl
  | succ f => unfold sdF; rw [if_neg h]
theorem sdF_go {M t s f : Nat} (h : s * t < M) : sdF M t (f + 1) s = sdF M t f (2 * s) := by
  rw [sdF, if_pos h]
/-- a power of two that reaches, at most 64 -/
theorem sdn_pow {M t : Nat} (hM : M ≤ 64) (ht : 1 ≤ t) : ∃ k, k ≤ 6 ∧ sdn M t = 2 ^ k ∧ M ≤ sdn M t * t := by
  have key : ∀ f k, k ≤ 6 → 6 ≤ f + k → ∃ k', k' ≤ 6 ∧ sdF M t (f + 1) (2 ^ k) = 2 ^ k' ∧ M ≤ 2 ^ k' * t := by
    intro f
    induction f with
    | zero =>
      intro k hk hf
      obtain rfl : k = 6 := by omega
      have : ¬ 2 ^ 6 * t < M := by omega
      exact ⟨6, by omega, sdF_stop this _, by omega⟩
    | succ f ih =>
      intro k hk hf
      by_cases h : 2 ^ k * t < M
      · have h6 : k < 6 := by
          rcases Nat.lt_or_ge k 6 with h6 | h6
          · exact h6
          · obtain rfl : k = 6 := by omega
            omega
        rw [sdF_go h, ← Nat.pow_succ']
        exact ih (k + 1) (by omega) (by omega)
      · exact ⟨k, hk, sdF_stop h _, by omega⟩
  obtain ⟨k, h1, h2, h3⟩ := key 6 0 (by omega) (by omega)
  refine ⟨k, h1, h2, ?_⟩
  show M ≤ sdF M t 7 1 * t
  rw [show sdF M t 7 1 = 2 ^ k from h2]
  exact h3
def sideOK (R C t : Int) : Bool := decide (1 ≤ R ∧ R ≤ 64 ∧ 1 ≤ C ∧ C ≤ 64 ∧ 1 ≤ t ∧ t ≤ 8)
theorem mo_side_no {R C t : Int} {w : World} (h : sideOK R C t = false) : Calls Try.prog 35 #[.int .i64 R, .int .i64 C, .int .i64 t] w fun e W' => e = .returned (.tuple #[.int .i64 0, .int .i64 11]) ∧ w = W' := by
  have H : ¬ (1 ≤ R ∧ R ≤ 64 ∧ 1 ≤ C ∧ C ≤ 64 ∧ 1 ≤ t ∧ t ≤ 8) := of_decide_eq_false h
  clear h
  cases k1 : inB R 1 64
  · clear H
    go_enter Try.func35, Try.ntmps35
    go_wp2_with (go_at_call 66; refine mo_from1.mono ?_; rintro e w1 ⟨rfl, rfl⟩)
    go_ret2
    exact ⟨rfl, rfl⟩
  cases k2 : inB C 1 64
  · clear H
    go_enter Try.func35, Try.ntmps35
    go_wp2_with (go_at_call 66; refine mo_from1.mono ?_; rintro e w1 ⟨rfl, rfl⟩)
    go_ret2
    exact ⟨rfl, rfl⟩
  have k3 : inB t 1 8 = false := decide_eq_false (fun q => H ⟨(of_decide_eq_true k1).1, (of_decide_eq_true k1).2, (of_decide_eq_true k2).1, (of_decide_eq_true k2).2, q.1, q.2⟩)
  clear H
  go_enter Try.func35, Try.ntmps35
  go_wp2_with (go_at_call 66; refine mo_from1.mono ?_; rintro e w1 ⟨rfl, rfl⟩)
  go_ret2
  exact ⟨rfl, rfl⟩
set_option maxRecDepth 100000 in
set_option maxHeartbeats 4000000 in
theorem mo_side {R C t : Nat} {w : World} (hR : 1 ≤ R) (hR' : R ≤ 64) (hC : 1 ≤ C) (hC' : C ≤ 64) (ht : 1 ≤ t) (h8 : t ≤ 8) : Calls Try.prog 35 #[.int .i64 (R : Int), .int .i64 (C : Int), .int .i64 (t : Int)] w fun e W' => e = .returned (.tuple #[.int .i64 ((sdn (max R C) t : Nat) : Int), .int .i64 0]) ∧ w = W' := by
  have k1 : inB (R : Int) 1 64 = true := decide_eq_true (by omega)
  have k2 : inB (C : Int) 1 64 = true := decide_eq_true (by omega)
  have k3 : inB (t : Int) 1 8 = true := decide_eq_true (by omega)
  have hmx : max (R : Int) (C : Int) = ((max R C : Nat) : Int) := by omega
  have hM : max R C ≤ 64 := by omega
  have H0 := Lib.hid (show sdF (max R C) t 7 1 = sdn (max R C) t from rfl)
  generalize max R C = M at *
  generalize sdn M t = D at *
  go_enter Try.func35, Try.ntmps35
  go_wp2_with (go_at_call 66; refine mo_from1.mono ?_; rintro e w1 ⟨rfl, rfl⟩)
  go_loop [8] (fun s => ∃ k n : Nat, k ≤ 6 ∧ s = .int .i64 n ∧ Hid (n = 2 ^ k) ∧ n ≤ 64 ∧ Hid (sdF M t (7 - k) n = D)) (fun s => 128 - (intOf s).toNat)
  case atStart => exact ⟨0, 1, by omega, rfl, Lib.hid rfl, by omega, H0⟩
  case round =>
    obtain ⟨k, n, hk, rfl, HN, hn, HD⟩ := hrel
    have hn1 : 1 ≤ n := by rw [HN.out]; exact Nat.two_pow_pos k
    have hw : IntKind.i64.wrap ((n : Int) * (t : Int)) = ((n * t : Nat) : Int) := by
      have := Nat.mul_le_mul hn h8
      rw [← Int.natCast_mul]
      exact IntWalk.i64_in _ (by omega)
    by_cases hlt : n * t < M
    · have h6 : k < 6 := by
        rcases Nat.lt_or_ge k 6 with h6 | h6
        · exact h6
        · obtain rfl : k = 6 := by omega
          have : n * 1 ≤ n * t := Nat.mul_le_mul_left _ ht
          have := HN.out
          omega
      have HN2 : Hid (2 * n = 2 ^ (k + 1)) := Lib.hid (by rw [HN.out, Nat.pow_succ']; )
      have h64 : 2 * n ≤ 64 := by
        rw [HN2.out]
        exact Nat.pow_le_pow_right (n := 2) (by decide) (show k + 1 ≤ 6 by omega)
      have HD2 : Hid (sdF M t (7 - (k + 1)) (2 * n) = D) := Lib.hid (by
        have := HD.out
        rw [show 7 - k = 7 - (k + 1) + 1 by omega, sdF_go hlt] at this
        exact this)
      have hge : decide (((n * t : Nat) : Int) < (M : Int)) = true := decide_eq_true (by omega)
      generalize n * t = P at *
      go_wp2
      exact ⟨⟨k + 1, 2 * n, by omega, (by first | rfl | (congr 1; omega)), HN2, h64, HD2⟩, by simp [intOf]; omega⟩
    · have HD2 : Hid (n = D) := Lib.hid ((sdF_stop hlt _).symm.trans HD.out)
      have hge : decide (((n * t : Nat) : Int) < (M : Int)) = false := decide_eq_false (by omega)
      generalize n * t = P at *
      go_wp2
      go_ret2
      exact ⟨by rw [HD2.out]; rfl, rfl⟩
/-- a layout's size -/
def sizN (M t : Nat) : Nat := sdn M t * sdn M t * t * t
theorem sizN_le {M t : Nat} (hM : M ≤ 64) (ht : 1 ≤ t) (h8 : t ≤ 8) : sizN M t ≤ 262144 := by
  obtain ⟨k, h1, h2, _⟩ := sdn_pow hM ht
  have h3 : sdn M t ≤ 64 := by rw [h2]; exact Nat.pow_le_pow_right (n := 2) (by decide) h1
  have h4 := Nat.mul_le_mul (Nat.mul_le_mul (Nat.mul_le_mul h3 h3) h8) h8
  exact h4
set_option maxHeartbeats 2000000 in
theorem mo_size {R C t : Nat} {w : World} (hR : 1 ≤ R) (hR' : R ≤ 64) (hC : 1 ≤ C) (hC' : C ≤ 64) (ht : 1 ≤ t) (h8 : t ≤ 8) : Calls Try.prog 36 #[.int .i64 (R : Int), .int .i64 (C : Int), .int .i64 (t : Int)] w fun e W' => e = .returned (.tuple #[.int .i64 ((sizN (max R C) t : Nat) : Int), .int .i64 0]) ∧ w = W' := by
  have hs := fun w => mo_side (w := w) hR hR' hC hC' ht h8
  obtain ⟨k, h1, h2, _⟩ := sdn_pow (M := max R C) (by omega) ht
  have h3 : sdn (max R C) t ≤ 64 := by rw [h2]; exact Nat.pow_le_pow_right (n := 2) (by decide) h1
  unfold sizN
  clear h1 h2
  generalize sdn (max R C) t = D at *
  have b1 := Nat.mul_le_mul h3 h3
  have w1 : IntKind.i64.wrap ((D : Int) * (D : Int)) = ((D * D : Nat) : Int) := by rw [← Int.natCast_mul]; exact IntWalk.i64_in _ (by omega)
  generalize D * D = A at *
  have b2 := Nat.mul_le_mul b1 h8
  have w2 : IntKind.i64.wrap ((A : Int) * (t : Int)) = ((A * t : Nat) : Int) := by rw [← Int.natCast_mul]; exact IntWalk.i64_in _ (by omega)
  generalize A * t = B at *
  have b3 := Nat.mul_le_mul b2 h8
  have w3 : IntKind.i64.wrap ((B : Int) * (t : Int)) = ((B * t : Nat) : Int) := by rw [← Int.natCast_mul]; exact IntWalk.i64_in _ (by omega)
  clear b1 b2 b3
  go_enter Try.func36, Try.ntmps36
  go_wp2_with fail
  refine (hs _).mono ?_
  rintro e w1 ⟨rfl, rfl⟩
  clear hs
  go_wp2
  go_ret2
  exact ⟨rfl, rfl⟩
theorem mo_size_no {R C t : Int} {w : World} (h : sideOK R C t = false) (h1 : -9223372036854775808 ≤ t) (h2 : t ≤ 9223372036854775807) : Calls Try.prog 36 #[.int .i64 R, .int .i64 C, .int .i64 t] w fun e W' => e = .returned (.tuple #[.int .i64 0, .int .i64 11]) ∧ w = W' := by
  have hs := fun w => mo_side_no (w := w) h
  clear h h1 h2
  have z : IntKind.i64.wrap (0 * t) = 0 := by rw [Int.zero_mul]; exact IntWalk.i64_in _ (by omega)
  go_enter Try.func36, Try.ntmps36
  go_wp2_with fail
  refine (hs _).mono ?_
  rintro e w1 ⟨rfl, rfl⟩
  clear hs
  go_wp2
  go_ret2
  exact ⟨rfl, rfl⟩
theorem l_side_no {R C t : Int} {w : World} (h : sideOK R C t = false) : Calls Try.prog 37 #[.int .i64 R, .int .i64 C, .int .i64 t] w fun e W' => e = .returned (.int .i64 0) ∧ w = W' := by
  have H : ¬ (1 ≤ R ∧ R ≤ 64 ∧ 1 ≤ C ∧ C ≤ 64 ∧ 1 ≤ t ∧ t ≤ 8) := of_decide_eq_false h
  clear h
  have hway : R < 1 ∨ (¬ R < 1 ∧ 64 < R) ∨ (¬ R < 1 ∧ ¬ 64 < R ∧ C < 1) ∨ (¬ R < 1 ∧ ¬ 64 < R ∧ ¬ C < 1 ∧ 64 < C) ∨ (¬ R < 1 ∧ ¬ 64 < R ∧ ¬ C < 1 ∧ ¬ 64 < C ∧ t < 1) ∨ (¬ R < 1 ∧ ¬ 64 < R ∧ ¬ C < 1 ∧ ¬ 64 < C ∧ ¬ t < 1 ∧ 8 < t) := by omega
  clear H
  rcases hway with h | ⟨h1, h2⟩ | ⟨h1, h2, h3⟩ | ⟨h1, h2, h3, h4⟩ | ⟨h1, h2, h3, h4, h5⟩ | ⟨h1, h2, h3, h4, h5, h6⟩
  all_goals
    go_enter Try.func37, Try.ntmps37
    go_wp2
    go_ret
    exact ⟨rfl, rfl⟩
set_option maxRecDepth 100000 in
set_option maxHeartbeats 4000000 in
theorem l_side {R C t : Nat} {w : World} (hR : 1 ≤ R) (hR' : R ≤ 64) (hC : 1 ≤ C) (hC' : C ≤ 64) (ht : 1 ≤ t) (h8 : t ≤ 8) : Calls Try.prog 37 #[.int .i64 (R : Int), .int .i64 (C : Int), .int .i64 (t : Int)] w fun e W' => e = .returned (.int .i64 ((sdn (max R C) t : Nat) : Int)) ∧ w = W' := by
  have k1 : ¬ (R : Int) < 1 := by omega
  have k2 : ¬ 64 < (R : Int) := by omega
  have k3 : ¬ (C : Int) < 1 := by omega
  have k4 : ¬ 64 < (C : Int) := by omega
  have k5 : ¬ (t : Int) < 1 := by omega
  have k6 : ¬ 8 < (t : Int) := by omega
  obtain ⟨M, hM⟩ : ∃ M, M = max R C := ⟨_, rfl⟩
  rw [← hM]
  have H0 := Lib.hid (show sdF M t 7 1 = sdn M t from rfl)
  generalize sdn M t = D at *
  have HM := Lib.hid hM
  clear hM
  go_enter Try.func37, Try.ntmps37
  go_wp2
  go_loop [7] (fun s => ∃ k n : Nat, k ≤ 6 ∧ s = .int .i64 n ∧ Hid (n = 2 ^ k) ∧ n ≤ 64 ∧ Hid (sdF M t (7 - k) n = D)) (fun s => 128 - (intOf s).toNat)
  case atStart => exact ⟨0, 1, by omega, rfl, Lib.hid rfl, by omega, H0⟩
  case round =>
    obtain ⟨k, n, hk, rfl, HN, hn, HD⟩ := hrel
    have hn1 : 1 ≤ n := by rw [HN.out]; exact Nat.two_pow_pos k
    have hw : IntKind.i64.wrap ((n : Int) * (t : Int)) = ((n * t : Nat) : Int) := by
      have := Nat.mul_le_mul hn h8
      rw [← Int.natCast_mul]
      exact IntWalk.i64_in _ (by omega)
    by_cases hlt : n * t < M
    · have h6 : k < 6 := by
        rcases Nat.lt_or_ge k 6 with h6 | h6
        · exact h6
        · obtain rfl : k = 6 := by omega
          have : n * 1 ≤ n * t := Nat.mul_le_mul_left _ ht
          have := HN.out
          have := HM.out
          omega
      have HN2 : Hid (2 * n = 2 ^ (k + 1)) := Lib.hid (by rw [HN.out, Nat.pow_succ']; )
      have h64 : 2 * n ≤ 64 := by
        rw [HN2.out]
        exact Nat.pow_le_pow_right (n := 2) (by decide) (show k + 1 ≤ 6 by omega)
      have HD2 : Hid (sdF M t (7 - (k + 1)) (2 * n) = D) := Lib.hid (by
        have := HD.out
        rw [show 7 - k = 7 - (k + 1) + 1 by omega, sdF_go hlt] at this
        exact this)
      have hor : n * t < R ∨ (¬ n * t < R ∧ n * t < C) := by have := HM.out; omega
      generalize n * t = P at *
      rcases hor with h | ⟨h, h'⟩
      · have d1 : decide ((P : Int) < (R : Int)) = true := decide_eq_true (by omega)
        go_wp2
        exact ⟨⟨k + 1, 2 * n, by omega, (by first | rfl | (congr 1; omega)), HN2, h64, HD2⟩, by simp [intOf]; omega⟩
      · have d1 : decide ((P : Int) < (R : Int)) = false := decide_eq_false (by omega)
        have d2 : decide ((P : Int) < (C : Int)) = true := decide_eq_true (by omega)
        go_wp2
        exact ⟨⟨k + 1, 2 * n, by omega, (by first | rfl | (congr 1; omega)), HN2, h64, HD2⟩, by simp [intOf]; omega⟩
    · have HD2 : Hid (n = D) := Lib.hid ((sdF_stop hlt _).symm.trans HD.out)
      have d1 : decide (n * t < R) = false := decide_eq_false (by have := HM.out; omega)
      have d2 : decide (n * t < C) = false := decide_eq_false (by have := HM.out; omega)
      generalize n * t = P at *
      go_wp2
      go_ret
      exact ⟨by rw [HD2.out]; rfl, rfl⟩
theorem l_alive16 (w : World) : Calls Try.prog 33 #[] w fun e W' => e = .returned (.bool true) ∧ Below w.heap.size w W' := by
  have h1 := fun w => mo_interN (i := 1) (j := 1) (w := w) (by decide) (by decide)
  have h2 := fun w => mo_index (i := 0) (j := 1) (t := 1) (w := w) (by decide) (by decide) (by decide) (by decide)
  rw [show spr 1 1 16 = 3 from by decide] at h1
  rw [show plc 0 1 1 = 1 from by decide] at h2
  go_enter Try.func33, Try.ntmps33
  go_wp2_with fail
  refine (h1 _).mono ?_
  rintro e w1 ⟨rfl, rfl⟩
  go_wp2_with fail
  refine (h2 _).mono ?_
  rintro e w1 ⟨rfl, n, rfl⟩
  go_wp2
  go_ret
  exact ⟨rfl, below_drewN _ _ _⟩
end Go.Proofs.Ytaefalmabphadaa
