/- The law NeedTells, walked. -/
import Derived.Test.YtgppbimbampenaaNeTells
namespace Go.Proofs.Ytgppbimbampenaa
open Go.RowKit Go.Shelf
theorem w_z1 {z x a b : Int} {Z X Y : Nat} (hz : z = (Z : Int)) (hx : x = a * b) (hX : a = (X : Int)) (hY : b = (Y : Int)) (h : Z + X * Y ≤ 100000000) : wrap64 (z + wrap64 x) = ((Z + X * Y : Nat) : Int) := by
  subst hx
  exact wadd hz (wmul hX hY (by omega)) h
theorem four_two (p r : Nat) : 4 * p * r = 1 * (2 * p) * (2 * r) := by
  rw [Nat.one_mul, Nat.mul_mul_mul_comm 2 p 2 r, Nat.mul_assoc]
theorem z_one {m k n Z1 : Nat} (hm : m ≤ 64) (hn : n ≤ 64) (hZ : Z1 = k % 2 * (2 * (m / 2)) * (2 * (n / 2))) :
    Hid (k % 2 = 1 ∧ wrap64 (wrap64 (4 * ((m : Int) / 2) * ((n : Int) / 2))) = (Z1 : Int) ∨ k % 2 = 0 ∧ 0 = (Z1 : Int)) := Lib.hid (by
  rcases Nat.mod_two_eq_zero_or_one k with e | e
  · right
    rw [e, Nat.zero_mul, Nat.zero_mul] at hZ
    exact ⟨e, by rw [hZ]; rfl⟩
  · left
    rw [e, ← four_two] at hZ
    refine ⟨e, ?_⟩
    have b := mul_top (show 4 * (m / 2) ≤ 256 by omega) (show n / 2 ≤ 64 by omega) (show 256 * 64 ≤ 16384 by decide)
    have q := wmul (x := 4 * ((m : Int) / 2)) (y := (n : Int) / 2) (X := 4 * (m / 2)) (Y := n / 2) (by omega) (by omega) (by omega)
    rw [q, hZ]
    exact IntWalk.wrap64_in _ (by omega))
theorem z_two {m k n Z1 Z2 : Nat} (hm : m ≤ 64) (hk : k ≤ 64) (hZ : Z2 = n % 2 * (2 * (m / 2)) * k) (h : Z1 + Z2 ≤ 3932160) :
    Hid (n % 2 = 1 ∧ wrap64 ((Z1 : Int) + wrap64 (2 * ((m : Int) / 2) * (k : Int))) = ((Z1 + Z2 : Nat) : Int) ∨ n % 2 = 0 ∧ (Z1 : Int) = ((Z1 + Z2 : Nat) : Int)) := Lib.hid (by
  rcases Nat.mod_two_eq_zero_or_one n with e | e
  · right
    rw [e, Nat.zero_mul, Nat.zero_mul] at hZ
    exact ⟨e, by rw [hZ]; rfl⟩
  · left
    rw [e, Nat.one_mul] at hZ
    refine ⟨e, ?_⟩
    rw [w_z1 (z := (Z1 : Int)) (x := 2 * ((m : Int) / 2) * (k : Int)) (a := 2 * ((m : Int) / 2)) (b := (k : Int)) (Z := Z1) (X := 2 * (m / 2)) (Y := k) rfl rfl (by omega) rfl (by omega), hZ])
theorem z_three {m k n Z1 Z3 : Nat} (hk : k ≤ 64) (hn : n ≤ 64) (hZ : Z3 = m % 2 * k * n) (h : Z1 + Z3 ≤ 3932160) :
    Hid (m % 2 = 1 ∧ wrap64 ((Z1 : Int) + wrap64 ((k : Int) * (n : Int))) = ((Z1 + Z3 : Nat) : Int) ∨ m % 2 = 0 ∧ (Z1 : Int) = ((Z1 + Z3 : Nat) : Int)) := Lib.hid (by
  rcases Nat.mod_two_eq_zero_or_one m with e | e
  · right
    rw [e, Nat.zero_mul, Nat.zero_mul] at hZ
    exact ⟨e, by rw [hZ]; rfl⟩
  · left
    rw [e, Nat.one_mul] at hZ
    refine ⟨e, ?_⟩
    rw [w_z1 (z := (Z1 : Int)) (x := (k : Int) * (n : Int)) (a := (k : Int)) (b := (n : Int)) (Z := Z1) (X := k) (Y := n) rfl rfl rfl rfl (by omega), hZ])
set_option maxRecDepth 100000 in
set_option maxHeartbeats 8000000 in
theorem l27_count {c : Nat} (hc : 1 ≤ c) (m : Nat) : ∀ (k n : Nat) (w : World), 1 ≤ m ∧ m ≤ 64 → 1 ≤ k ∧ k ≤ 64 → 1 ≤ n ∧ n ≤ 64 →
    Calls Try.prog 50 #[.int .i64 (m : Int), .int .i64 (k : Int), .int .i64 (n : Int), .int .i64 (c : Int)] w fun e W' => e = .returned (.tuple #[.int .i64 (cntN (fun _ _ _ => 0) m k n c : Int), .int .i64 (cntN addS m k n c : Int)]) ∧ Below w.heap.size w W' := by
  induction m using Nat.strongRecOn with
  | _ m ih =>
    intro k n w hm hk hn
    cases hF : fastN m k n c
    · rw [cntN_slow hF, cntN_slow hF]
      have hw : m ≤ c ∨ (c < m ∧ k ≤ c) ∨ (c < m ∧ c < k ∧ n ≤ c) := by
        have : ¬ (c < m ∧ c < k ∧ c < n) := fun h => by rw [fastN_iff.2 h] at hF; cases hF
        omega
      have HW := Lib.hid (w_mkn hm.2 hk.2 hn.2)
      generalize m * k * n = N at *
      clear ih hF
      rcases hw with h1 | ⟨h1, h2⟩ | ⟨h1, h2, h3⟩
      all_goals
        go_enter Try.func50, Try.ntmps50
        go_wp2
        go_ret2
        exact ⟨by rw [← HW.out]; rfl, Below.refl _ _⟩
    · have hF2 := fastN_iff.1 hF
      have t1 := cntN_fit (S := fun _ _ _ => 0) (fun _ _ _ _ _ _ => Nat.zero_le _) hm.2 hk.2 hn.2 hc
      have t2 := cntN_fit addS_le hm.2 hk.2 hn.2 hc
      rw [cntN_fast hF] at t1 t2
      rw [cntN_fast hF, cntN_fast hF]
      have hI := fun w => ih (m / 2) (by omega) (k / 2) (n / 2) w (by omega) (by omega) (by omega)
      rw [← half_z, ← half_z, ← half_z] at hI
      generalize cntN (fun _ _ _ => 0) (m / 2) (k / 2) (n / 2) c = H1 at *
      generalize cntN addS (m / 2) (k / 2) (n / 2) c = H2 at *
      obtain ⟨h1, h2, h3⟩ := hF2
      clear ih hF
      obtain ⟨Z1, hZ1⟩ : ∃ Z, Z = k % 2 * (2 * (m / 2)) * (2 * (n / 2)) := ⟨_, rfl⟩
      obtain ⟨Z2, hZ2⟩ : ∃ Z, Z = n % 2 * (2 * (m / 2)) * k := ⟨_, rfl⟩
      obtain ⟨Z3, hZ3⟩ : ∃ Z, Z = m % 2 * k * n := ⟨_, rfl⟩
      rw [← hZ1, ← hZ2, ← hZ3] at t1 t2 ⊢
      have HY := Lib.hid (w_all (H := H2) hm.2 hk.2 hn.2 t2)
      have HX := Lib.hid (w_seven (H := H1) (D := Z1 + Z2 + Z3) (by omega))
      have c1 := z_one (k := k) hm.2 hn.2 hZ1
      have c2 := z_two (Z1 := Z1) (n := n) hm.2 hk.2 hZ2 (by omega)
      have c3 := z_three (Z1 := Z1 + Z2) (m := m) hk.2 hn.2 hZ3 (by omega)
      clear hZ1 hZ2 hZ3 t1 t2
      generalize addS (m / 2) (k / 2) (n / 2) = T at *
      generalize hA : Z1 + Z2 = Z12 at *
      clear hA
      generalize hB : Z12 + Z3 = Z at *
      clear hB
      rw [Nat.add_zero]
      generalize 7 * H1 + Z = R1 at *
      generalize 7 * H2 + T + Z = R2 at *
      go_enter Try.func50, Try.ntmps50
      go_wp2_with fail
      refine (hI _).mono ?_
      rintro e w1 ⟨rfl, b1⟩
      clear hI
      go_upto_if 55 with (fail)
      go_cut [15] from 55 to 61 (fun u wx => u = .int .i64 (Z1 : Int) ∧ wx = w1)
      case first =>
        rcases c1.out with ⟨e1, e2⟩ | ⟨e1, e2⟩
        · have d : (k : Int) % 2 = 1 := by omega
          clear e1
          go_wp2
          go_meet
          exact ⟨by rw [e2], rfl⟩
        · have d : (k : Int) % 2 = 0 := by omega
          clear e1
          go_wp2
          go_meet
          exact ⟨by rw [← e2], rfl⟩
      obtain ⟨rfl, hw3⟩ := hcut
      cases hw3
      clear c1
      go_upto_if 64 with (fail)
      go_cut [15] from 64 to 70 (fun u wx => u = .int .i64 (Z12 : Int) ∧ wx = w1)
      case first =>
        rcases c2.out with ⟨e1, e2⟩ | ⟨e1, e2⟩
        · have d : (n : Int) % 2 = 1 := by omega
          clear e1
          go_wp2
          go_meet
          exact ⟨by rw [e2], rfl⟩
        · have d : (n : Int) % 2 = 0 := by omega
          clear e1
          go_wp2
          go_meet
          exact ⟨by rw [← e2], rfl⟩
      obtain ⟨rfl, hw3⟩ := hcut
      cases hw3
      clear c2
      go_upto_if 73 with (fail)
      go_cut [15] from 73 to 78 (fun u wx => u = .int .i64 (Z : Int) ∧ wx = w1)
      case first =>
        rcases c3.out with ⟨e1, e2⟩ | ⟨e1, e2⟩
        · have d : (m : Int) % 2 = 1 := by omega
          clear e1
          go_wp2
          go_meet
          exact ⟨by rw [e2], rfl⟩
        · have d : (m : Int) % 2 = 0 := by omega
          clear e1
          go_wp2
          go_meet
          exact ⟨by rw [← e2], rfl⟩
      obtain ⟨rfl, hw3⟩ := hcut
      cases hw3
      clear c3
      go_wp2
      go_ret2
      exact ⟨by rw [← HX.out, ← HY.out]; rfl, b1⟩
end Go.Proofs.Ytgppbimbampenaa
