/- need: count, Muls, Adds. -/
import Derived.Test.YtgppbimbampenaaNeSpec
namespace Go.Proofs.Ytgppbimbampenaa
open Go.RowKit Go.Shelf
theorem allS_three {m k n c : Int} : allS [m, k, n] c = (sideB m && sideB k && sideB n && decide (1 ≤ c)) := by
  unfold allS
  simp [List.range_succ, zat, Bool.and_assoc]
theorem cntN_fit {S : Nat → Nat → Nat → Nat} (hS : ∀ p q r, 1 ≤ p → 1 ≤ q → 1 ≤ r → S p q r ≤ 15 * (p * q * r)) {m k n c : Nat} (hm : m ≤ 64) (hk : k ≤ 64) (hn : n ≤ 64) (hc : 1 ≤ c) : cntN S m k n c ≤ 3932160 := by
  have h := (cntN_top hS m k n c).resolve_left (by omega)
  have a := Nat.mul_le_mul (Nat.mul_le_mul hm hk) hn
  omega
theorem wmul {x y : Int} {X Y : Nat} (hx : x = (X : Int)) (hy : y = (Y : Int)) (h : X * Y ≤ 100000000) : wrap64 (x * y) = ((X * Y : Nat) : Int) := by
  rw [hx, hy, ← Int.natCast_mul]
  exact IntWalk.wrap64_in _ (by omega)
theorem wadd {x y : Int} {X Y : Nat} (hx : x = (X : Int)) (hy : y = (Y : Int)) (h : X + Y ≤ 100000000) : wrap64 (x + y) = ((X + Y : Nat) : Int) := by
  rw [hx, hy, ← Int.natCast_add]
  exact IntWalk.wrap64_in _ (by omega)
theorem mul_top {X Y a b c : Nat} (hx : X ≤ a) (hy : Y ≤ b) (h : a * b ≤ c) : X * Y ≤ c := Nat.le_trans (Nat.mul_le_mul hx hy) h
theorem w_mkn {m k n : Nat} (hm : m ≤ 64) (hk : k ≤ 64) (hn : n ≤ 64) : wrap64 (wrap64 ((m : Int) * (k : Int)) * (n : Int)) = ((m * k * n : Nat) : Int) := by
  have h1 : m * k ≤ 4096 := mul_top hm hk (by decide)
  exact wmul (wmul rfl rfl (by omega)) rfl (mul_top h1 hn (by decide))
theorem w_odd {m k n : Nat} (hm : m ≤ 64) (hk : k ≤ 64) (hn : n ≤ 64) :
    wrap64 (wrap64 (wrap64 (wrap64 ((k : Int) % 2 * (2 * ((m : Int) / 2))) * (2 * ((n : Int) / 2))) + wrap64 (wrap64 ((n : Int) % 2 * (2 * ((m : Int) / 2))) * (k : Int))) + wrap64 (wrap64 ((m : Int) % 2 * (k : Int)) * (n : Int)))
      = ((k % 2 * (2 * (m / 2)) * (2 * (n / 2)) + n % 2 * (2 * (m / 2)) * k + m % 2 * k * n : Nat) : Int) := by
  have a1 : k % 2 * (2 * (m / 2)) ≤ 64 := mul_top (show k % 2 ≤ 1 by omega) (show 2 * (m / 2) ≤ 64 by omega) (by decide)
  have a2 : n % 2 * (2 * (m / 2)) ≤ 64 := mul_top (show n % 2 ≤ 1 by omega) (show 2 * (m / 2) ≤ 64 by omega) (by decide)
  have a3 : m % 2 * k ≤ 64 := mul_top (show m % 2 ≤ 1 by omega) hk (by decide)
  have b1 : k % 2 * (2 * (m / 2)) * (2 * (n / 2)) ≤ 4096 := mul_top a1 (show 2 * (n / 2) ≤ 64 by omega) (by decide)
  have b2 : n % 2 * (2 * (m / 2)) * k ≤ 4096 := mul_top a2 hk (by decide)
  have b3 : m % 2 * k * n ≤ 4096 := mul_top a3 hn (by decide)
  have e1 : (2 * ((m : Int) / 2)) = ((2 * (m / 2) : Nat) : Int) := by omega
  have e2 : (2 * ((n : Int) / 2)) = ((2 * (n / 2) : Nat) : Int) := by omega
  have e3 : (k : Int) % 2 = ((k % 2 : Nat) : Int) := by omega
  have e4 : (n : Int) % 2 = ((n % 2 : Nat) : Int) := by omega
  have e5 : (m : Int) % 2 = ((m % 2 : Nat) : Int) := by omega
  exact wadd (wadd (wmul (wmul e3 e1 (by omega)) e2 (by omega)) (wmul (wmul e4 e1 (by omega)) rfl (by omega)) (by omega)) (wmul (wmul e5 rfl (by omega)) rfl (by omega)) (by omega)
theorem w_cnt {H T D : Nat} {d : Int} (hd : d = (D : Int)) (h : 7 * H + T + D ≤ 3932160) : wrap64 (wrap64 (wrap64 (7 * (H : Int)) + (T : Int)) + d) = ((7 * H + T + D : Nat) : Int) := by
  rw [hd, IntWalk.wrap64_in (7 * (H : Int)) (by omega), IntWalk.wrap64_in (7 * (H : Int) + (T : Int)) (by omega), IntWalk.wrap64_in _ (by omega)]
  omega
set_option maxRecDepth 100000 in
set_option maxHeartbeats 4000000 in
theorem need_count {S : Nat → Nat → Nat → Nat} {kf : Nat} {fs : Array Value} (he : Enters kf) (hS : ∀ p q r, 1 ≤ p → 1 ≤ q → 1 ≤ r → S p q r ≤ 15 * (p * q * r))
    (hf : ∀ (p q r : Nat) (W : World), p ≤ 64 → q ≤ 64 → r ≤ 64 → Calls Try.prog kf (#[.int .i64 (p : Int), .int .i64 (q : Int), .int .i64 (r : Int)] ++ fs) W fun e W' => e = .returned (.int .i64 (S p q r : Int)) ∧ W = W') {c : Nat} (hc : 1 ≤ c) (m : Nat) :
    ∀ (k n : Nat) (w : World), 1 ≤ m ∧ m ≤ 64 → 1 ≤ k ∧ k ≤ 64 → 1 ≤ n ∧ n ≤ 64 →
    Calls Try.prog 72 #[.int .i64 (m : Int), .int .i64 (k : Int), .int .i64 (n : Int), .int .i64 (c : Int), .func (.func kf) #[] fs] w fun e W' => e = .returned (.tuple #[.int .i64 (cntN S m k n c : Int), .int .i64 0]) ∧ Below w.heap.size w W' := by
  induction m using Nat.strongRecOn with
  | _ m ih =>
    intro k n w hm hk hn
    have hA := argk_new .i64 [(m : Int), (k : Int), (n : Int)] w 3
    have hmay := need_may (c := (c : Int)) hA (by simp)
    rw [allS_three, sideB_iff.2 (by omega), sideB_iff.2 (by omega), sideB_iff.2 (by omega), decide_eq_true (by omega)] at hmay
    have hfast := fun w => wi_fast (m := m) (k := k) (n := n) (c := c) (w := w)
    have hb : Below w.heap.size w (w.alloc (.cells #[.int .i64 (m : Int), .int .i64 (k : Int), .int .i64 (n : Int)] 3)) := (Below.refl _ w).alloc (Nat.le_refl _) _
    have htop := cntN_fit hS hm.2 hk.2 hn.2 hc
    cases hF : fastN m k n c
    · rw [hF] at hfast
      rw [cntN_slow hF] at htop ⊢
      clear ih hf he hS hF
      go_enter Try.func72, Try.ntmps72
      go_wp2_with fail
      refine hmay.mono ?_
      rintro e w1 ⟨rfl, hw1⟩
      cases hw1
      go_wp2_with fail
      refine (hfast _).mono ?_
      rintro e w1 ⟨rfl, rfl⟩
      go_wp2
      go_ret2
      exact ⟨by rw [w_mkn hm.2 hk.2 hn.2]; rfl, hb⟩
    · rw [hF] at hfast
      have hF2 := fastN_iff.1 hF
      rw [cntN_fast hF] at htop ⊢
      have hI := fun w => ih (m / 2) (by omega) (k / 2) (n / 2) w (by omega) (by omega) (by omega)
      have hC := fun W => hf (m / 2) (k / 2) (n / 2) W (by omega) (by omega) (by omega)
      have HE := Lib.hid he
      generalize cntN S (m / 2) (k / 2) (n / 2) c = H at *
      generalize S (m / 2) (k / 2) (n / 2) = T at *
      have HW := Lib.hid (w_cnt (H := H) (T := T) (w_odd hm.2 hk.2 hn.2) htop)
      clear htop
      clear ih hf hS hF he
      go_enter Try.func72, Try.ntmps72
      go_wp2_with fail
      refine hmay.mono ?_
      rintro e w1 ⟨rfl, hw1⟩
      cases hw1
      go_wp2_with fail
      refine (hfast _).mono ?_
      rintro e w1 ⟨rfl, rfl⟩
      rw [← half_z, ← half_z, ← half_z] at hI hC
      go_wp2_with fail
      refine (hI _).mono ?_
      rintro e w2 ⟨rfl, b2⟩
      replace hb := below_both hb b2
      clear hI b2 hfast
      have hcl := HE.out (#[.int .i64 ((m : Int) / 2), .int .i64 ((k : Int) / 2), .int .i64 ((n : Int) / 2)] ++ fs) w2
      have hc2 := hC w2
      clear hC
      go_wp2_with fail
      refine hc2.mono ?_
      rintro e w3 ⟨rfl, rfl⟩
      clear hc2 hcl
      go_wp2
      go_ret2
      exact ⟨by rw [HW.out]; rfl, hb⟩
theorem enters_muls : Enters 73 := enters_of Try.func73 (by kernel_rfl) rfl
theorem muls_calls (p q r : Nat) (W : World) : Calls Try.prog 73 (#[.int .i64 (p : Int), .int .i64 (q : Int), .int .i64 (r : Int)] ++ #[]) W fun e W' => e = .returned (.int .i64 ((0 : Nat) : Int)) ∧ W = W' := by
  show Calls Try.prog 73 #[.int .i64 (p : Int), .int .i64 (q : Int), .int .i64 (r : Int)] W _
  go_enter Try.func73, Try.ntmps73
  go_wp2
  go_ret
  exact ⟨rfl, rfl⟩
theorem need_muls {m k n c : Nat} {w : World} (hm : 1 ≤ m ∧ m ≤ 64) (hk : 1 ≤ k ∧ k ≤ 64) (hn : 1 ≤ n ∧ n ≤ 64) (hc : 1 ≤ c) :
    Calls Try.prog 43 #[.int .i64 (m : Int), .int .i64 (k : Int), .int .i64 (n : Int), .int .i64 (c : Int)] w fun e W' => e = .returned (.tuple #[.int .i64 (cntN (fun _ _ _ => 0) m k n c : Int), .int .i64 0]) ∧ Below w.heap.size w W' := by
  have h := need_count (S := fun _ _ _ => 0) enters_muls (fun _ _ _ _ _ _ => Nat.zero_le _) (fun p q r W _ _ _ => muls_calls p q r W) hc m k n w hm hk hn
  generalize cntN (fun _ _ _ => 0) m k n c = N at *
  go_enter Try.func43, Try.ntmps43
  go_wp2_with fail
  refine h.mono ?_
  rintro e w1 ⟨rfl, b1⟩
  clear h
  go_wp2
  go_ret2
  exact ⟨rfl, b1⟩
theorem need_product {m k n c : Nat} {w : World} (hm : 1 ≤ m ∧ m ≤ 64) (hk : 1 ≤ k ∧ k ≤ 64) (hn : 1 ≤ n ∧ n ≤ 64) (hc : 1 ≤ c) :
    Calls Try.prog 42 #[.int .i64 (m : Int), .int .i64 (k : Int), .int .i64 (n : Int), .int .i64 (c : Int)] w fun e W' => e = .returned (.tuple #[.int .i64 (needN m k n c : Int), .int .i64 0]) ∧ w = W' := by
  have h := wi_need (w := w) hm hk hn hc
  generalize needN m k n c = N at *
  go_enter Try.func42, Try.ntmps42
  go_wp2_with fail
  refine h.mono ?_
  rintro e w1 ⟨rfl, rfl⟩
  clear h
  go_wp2
  go_ret2
  exact ⟨rfl, rfl⟩
theorem l27_alive {w : World} : Calls Try.prog 41 #[] w fun e W' => e = .returned (.bool true) ∧ Below w.heap.size w W' := by
  have h := need_muls (m := 2) (k := 2) (n := 2) (c := 1) (w := w) (by decide) (by decide) (by decide) (by decide)
  have e7 : cntN (fun _ _ _ => 0) 2 2 2 1 = 7 := by rw [cntN_fast (by decide), cntN_slow (by decide)]
  rw [e7] at h
  go_enter Try.func41, Try.ntmps41
  go_wp2_with fail
  refine h.mono ?_
  rintro e w1 ⟨rfl, b1⟩
  clear h
  go_wp2
  go_ret
  exact ⟨rfl, b1⟩
end Go.Proofs.Ytgppbimbampenaa
