/- The law WinogradNeeds: its own count; Fast of any ints; and its walk. -/
import Derived.Test.YtjapilpjahhimaaWiMulS
namespace Go.Proofs.Ytjapilpjahhimaa
open Go.RowKit Go.Shelf
theorem wi_fastI {m k n c : Int} {w : World} : Calls Try.prog 26 #[.int .i64 m, .int .i64 k, .int .i64 n, .int .i64 c] w fun e W' => e = .returned (.bool (decide (c < m) && decide (c < k) && decide (c < n))) ∧ w = W' := by
  have e1 : (decide (c < m) && decide (c < k) && decide (c < n)) = decide (c < min (min m k) n) := by
    rw [Bool.eq_iff_iff]
    simp
    omega
  rw [e1]
  have hmn : ∀ (w : World) (ts : Array TypeId) (t : TypeId), (Builtin.min_ ts t #[.int .i64 m, .int .i64 k, .int .i64 n]).run Try.prog w = .ok (.int .i64 (min (min m k) n)) w := fun w ts t => min_three w ts t _ _ _
  generalize min (min m k) n = q at *
  go_enter Try.func26, Try.ntmps26
  go_wp2
  go_ret
  exact ⟨rfl, rfl⟩
theorem need_law {p q r T N : Nat} (h : p / 2 * (q / 2) + q / 2 * (r / 2) + 2 * (p / 2) * (r / 2) + T = N) (hN : N ≤ 5462) :
    wrap64 (wrap64 (wrap64 (wrap64 ((p : Int) / 2 * ((q : Int) / 2)) + wrap64 ((q : Int) / 2 * ((r : Int) / 2))) + wrap64 (2 * ((p : Int) / 2) * ((r : Int) / 2))) + (T : Int)) = (N : Int) := by
  rw [half_z, half_z, half_z]
  generalize p / 2 = P at *
  generalize q / 2 = Q at *
  generalize r / 2 = R at *
  rw [mul_in (X := P) (Y := Q) (by omega), mul_in (X := Q) (Y := R) (by omega), show 2 * (P : Int) = ((2 * P : Nat) : Int) by omega, mul_in (X := 2 * P) (Y := R) (by omega)]
  rw [IntWalk.wrap64_in (((P * Q : Nat) : Int) + ((Q * R : Nat) : Int)) (by omega), IntWalk.wrap64_in (((P * Q : Nat) : Int) + ((Q * R : Nat) : Int) + ((2 * P * R : Nat) : Int)) (by omega), IntWalk.wrap64_in _ (by omega)]
  omega
set_option maxRecDepth 100000 in
set_option maxHeartbeats 4000000 in
theorem l26_need {c : Nat} (hc : 1 ≤ c) (m : Nat) : ∀ (k n : Nat) (w : World), 1 ≤ m ∧ m ≤ 64 → 1 ≤ k ∧ k ≤ 64 → 1 ≤ n ∧ n ≤ 64 →
    Calls Try.prog 24 #[.int .i64 (m : Int), .int .i64 (k : Int), .int .i64 (n : Int), .int .i64 (c : Int)] w fun e W' => e = .returned (.int .i64 (needN m k n c : Int)) ∧ w = W' := by
  induction m using Nat.strongRecOn with
  | _ m ih =>
    intro k n w hm hk hn
    have htop := needN_top (c := c) hm.2 hk.2 hn.2
    cases hF : fastN m k n c
    · have d : (m : Int) ≤ (c : Int) ∨ (¬ (m : Int) ≤ (c : Int) ∧ (k : Int) ≤ (c : Int)) ∨ (¬ (m : Int) ≤ (c : Int) ∧ ¬ (k : Int) ≤ (c : Int) ∧ (n : Int) ≤ (c : Int)) := by
        have h : ¬ fastN m k n c = true := by rw [hF]; decide
        rw [fastN_iff] at h
        omega
      rw [needN_slow hF]
      clear ih htop hF
      rcases d with d1 | ⟨d1, d2⟩ | ⟨d1, d2, d3⟩
      all_goals
        go_enter Try.func24, Try.ntmps24
        go_wp2
        go_ret
        exact ⟨rfl, rfl⟩
    · have hF2 := fastN_iff.1 hF
      have d1 : ¬ (m : Int) ≤ (c : Int) := by omega
      have d2 : ¬ (k : Int) ≤ (c : Int) := by omega
      have d3 : ¬ (n : Int) ≤ (c : Int) := by omega
      rw [needN_fast hF] at htop ⊢
      have hI := fun w => ih (m / 2) (by omega) (k / 2) (n / 2) w (by omega) (by omega) (by omega)
      have HW := Lib.hid (need_law (p := m) (q := k) (r := n) (T := needN (m / 2) (k / 2) (n / 2) c) rfl htop)
      generalize m / 2 * (k / 2) + k / 2 * (n / 2) + 2 * (m / 2) * (n / 2) + needN (m / 2) (k / 2) (n / 2) c = N at *
      generalize needN (m / 2) (k / 2) (n / 2) c = T at *
      rw [← half_z, ← half_z, ← half_z] at hI
      clear ih htop hF hF2
      go_enter Try.func24, Try.ntmps24
      go_wp2_with fail
      refine (hI _).mono ?_
      rintro e w1 ⟨rfl, rfl⟩
      clear hI
      go_wp2
      go_ret
      exact ⟨by rw [HW.out]; rfl, rfl⟩
def l26B (m k n c : Int) : Bool := sideB m && sideB k && sideB n && decide (1 ≤ c)
theorem l26B_iff {m k n c : Int} : l26B m k n c = true ↔ (1 ≤ m ∧ m ≤ 64) ∧ (1 ≤ k ∧ k ≤ 64) ∧ (1 ≤ n ∧ n ≤ 64) ∧ 1 ≤ c := by
  simp [l26B, sideB_iff, and_assoc]
theorem wi_needA {m k n c : Int} : ∃ x er : Int, (∀ w, Calls Try.prog 25 #[.int .i64 m, .int .i64 k, .int .i64 n, .int .i64 c] w fun e W' => e = .returned (.tuple #[.int .i64 x, .int .i64 er]) ∧ w = W') ∧ ((l26B m k n c = false ∧ x = 0 ∧ er = 4) ∨ (l26B m k n c = true ∧ er = 0 ∧ ∀ w, Calls Try.prog 24 #[.int .i64 m, .int .i64 k, .int .i64 n, .int .i64 c] w fun e W' => e = .returned (.int .i64 x) ∧ w = W')) := by
  cases h : l26B m k n c
  · exact ⟨0, 4, fun w => wi_need_no h, .inl ⟨rfl, rfl, rfl⟩⟩
  · have q := l26B_iff.1 h
    obtain ⟨m, rfl⟩ : ∃ r : Nat, m = r := ⟨m.toNat, by omega⟩
    obtain ⟨k, rfl⟩ : ∃ r : Nat, k = r := ⟨k.toNat, by omega⟩
    obtain ⟨n, rfl⟩ : ∃ r : Nat, n = r := ⟨n.toNat, by omega⟩
    obtain ⟨c, rfl⟩ : ∃ r : Nat, c = r := ⟨c.toNat, by omega⟩
    exact ⟨needN m k n c, 0, fun w => wi_need (by omega) (by omega) (by omega) (by omega), .inr ⟨rfl, rfl, fun w => l26_need (by omega) m k n w (by omega) (by omega) (by omega)⟩⟩
set_option maxRecDepth 100000 in
set_option maxHeartbeats 16000000 in
theorem winogradNeeds_calls {m k n c : Int} {w : World} :
    Calls Try.prog 6 #[.int .i64 m, .int .i64 k, .int .i64 n, .int .i64 c] w fun e W' => e = .returned (.bool true) ∧ Below w.heap.size w W' := by
  have hal := l26_alive w
  have HF := Lib.hid (fun w => wi_fastI (m := m) (k := k) (n := n) (c := c) (w := w))
  obtain ⟨x, er, h1, h2⟩ := wi_needA (m := m) (k := k) (n := n) (c := c)
  have HN := Lib.hid h1
  have HW := Lib.hid h2
  clear h1 h2
  obtain ⟨FB, hFB⟩ : ∃ b : Bool, b = (decide (c < m) && decide (c < k) && decide (c < n)) := ⟨_, rfl⟩
  rw [← hFB] at HF
  have HB := Lib.hid hFB
  obtain ⟨AB, hAB⟩ : ∃ b : Bool, b = l26B m k n c := ⟨_, rfl⟩
  rw [← hAB] at HW
  have HA := Lib.hid hAB
  clear hFB hAB
  go_enter Try.func6, Try.ntmps6
  go_wp2_with fail
  refine hal.mono ?_
  rintro e W1 ⟨rfl, b1⟩
  clear hal
  go_wp2_with fail
  refine (HN.out _).mono ?_
  rintro e W2 ⟨rfl, rfl⟩
  clear HN
  go_upto_region 4 with (fail)
  go_cut [39] from 21 to 38 (fun u wx => u = .bool false ∧ W1 = wx)
  case first =>
    have hh := HB.out
    clear HW HA HB b1
    rcases (show ¬ c < m ∨ (c < m ∧ ¬ c < k) ∨ (c < m ∧ c < k ∧ ¬ c < n) ∨ (c < m ∧ c < k ∧ c < n) by omega) with d1 | ⟨d1, d2⟩ | ⟨d1, d2, d3⟩ | ⟨d1, d2, d3⟩
    all_goals cases FB
    all_goals first | (exfalso; revert hh; simp <;> omega) | skip
    all_goals
      clear hh
      go_wp2_with fail
      refine (HF.out _).mono ?_
      rintro e w1 ⟨rfl, rfl⟩
      go_wp2
      go_meet
      first | exact ⟨rfl, rfl⟩ | exact ⟨congrArg Value.bool (decide_eq_false (by omega)), rfl⟩
  obtain ⟨rfl, hw3⟩ := hcut
  cases hw3
  clear HF HB
  go_upto_region 6 with (fail)
  go_cut [65] from 40 to 64 (fun u wx => u = .bool (!AB) ∧ W1 = wx)
  case first =>
    have hh := HA.out
    clear HW HA b1
    unfold l26B sideB at hh
    rcases (show m < 1 ∨ (¬ m < 1 ∧ m > 64) ∨ (¬ m < 1 ∧ ¬ m > 64 ∧ k < 1) ∨ (¬ m < 1 ∧ ¬ m > 64 ∧ ¬ k < 1 ∧ k > 64) ∨ (¬ m < 1 ∧ ¬ m > 64 ∧ ¬ k < 1 ∧ ¬ k > 64 ∧ n < 1) ∨ (¬ m < 1 ∧ ¬ m > 64 ∧ ¬ k < 1 ∧ ¬ k > 64 ∧ ¬ n < 1 ∧ n > 64) ∨ (¬ m < 1 ∧ ¬ m > 64 ∧ ¬ k < 1 ∧ ¬ k > 64 ∧ ¬ n < 1 ∧ ¬ n > 64 ∧ c < 1) ∨ (¬ m < 1 ∧ ¬ m > 64 ∧ ¬ k < 1 ∧ ¬ k > 64 ∧ ¬ n < 1 ∧ ¬ n > 64 ∧ ¬ c < 1) by omega) with d1 | ⟨d1, d2⟩ | ⟨d1, d2, d3⟩ | ⟨d1, d2, d3, d4⟩ | ⟨d1, d2, d3, d4, d5⟩ | ⟨d1, d2, d3, d4, d5, d6⟩ | ⟨d1, d2, d3, d4, d5, d6, d7⟩ | ⟨d1, d2, d3, d4, d5, d6, d7⟩
    all_goals cases AB
    all_goals first | (exfalso; revert hh; simp <;> omega) | skip
    all_goals
      clear hh
      go_wp2
      go_meet
      exact ⟨rfl, rfl⟩
  obtain ⟨rfl, hw3⟩ := hcut
  cases hw3
  rcases HW.out with ⟨rfl, rfl, rfl⟩ | ⟨rfl, rfl, hl⟩
  · go_wp2
    go_ret
    exact ⟨rfl, b1⟩
  · have HL := Lib.hid hl
    clear hl
    go_wp2_with fail
    refine (HL.out _).mono ?_
    rintro e w1 ⟨rfl, rfl⟩
    go_wp2
    go_ret
    exact ⟨by simp, b1⟩
end Go.Proofs.Ytjapilpjahhimaa
