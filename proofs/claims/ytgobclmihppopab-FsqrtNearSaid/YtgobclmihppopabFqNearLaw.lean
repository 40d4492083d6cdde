/- vernierlaw10.FsqrtNear, walked. -/
import Derived.Test.YtgobclmihppopabFqLaw
import Derived.Test.YtgobclmihppopabFqNear
namespace Go.Proofs.Ytgobclmihppopab
open Go.RowKit Go.Shelf
set_option maxRecDepth 100000 in
set_option maxHeartbeats 8000000 in
theorem fsqrtNear_calls {a : Nat} {w : World} (ha : (a : Int) ≤ 18446744073709551615) :
    Calls Try.prog 4 #[.int .u64 (a : Int)] w fun e W' => e = .returned (.bool true) ∧ Below w.heap.size w W' := by
  have HC := Lib.hid (clear_sign ha)
  obtain ⟨c, hc⟩ : ∃ c, c = a % 9223372036854775808 := ⟨_, rfl⟩
  rw [← hc] at HC
  have hcl : (c : Int) ≤ 9223372036854775807 := by omega
  have h5 := fun w => class6 (W := w) (show (c : Int) ≤ 18446744073709551615 by omega)
  by_cases hcc : cls c = 1
  · obtain ⟨x, f, y, g, k1, k2, k3, k4, k5, k6, k7⟩ := root_near (c := c) (by omega) (decide_eq_false (by omega)) hcc
    have h1 := fun w => fsqrt_sqrt (a := c) (mode := 4) (w := w) (by omega)
    have h2 := fun w => fsqrt_sqrt (a := c) (mode := 3) (w := w) (by omega)
    rw [k1] at h1
    rw [k2] at h2
    have h3 := fun w => mul6 (mode := 4) (w := w) (show (x : Int) ≤ 18446744073709551615 by omega) (show (x : Int) ≤ 18446744073709551615 by omega)
    have h4 := fun w => mul6 (mode := 3) (w := w) (show (y : Int) ≤ 18446744073709551615 by omega) (show (y : Int) ≤ 18446744073709551615 by omega)
    rw [hcc] at h5
    generalize rmul x x 4 = P at *
    generalize rmul y y 3 = Q at *
    obtain ⟨lo, lf⟩ := P
    obtain ⟨hi, hf⟩ := Q
    dsimp only at *
    have j1 : (lo : Int) ≤ (c : Int) := by omega
    have j2 : (c : Int) ≤ (hi : Int) := by omega
    have j3 : (x : Int) ≤ (y : Int) := by omega
    have j4 : (y : Int) - (x : Int) ≤ 1 := by omega
    have j5 : (y : Int) ≤ 9218868437227405312 := by omega
    clear k1 k2 k3 k4 k5 k6 k7 hc hcl hcc
    go_enter Try.func4, Try.ntmps4
    go_wp2_with fail
    refine (qalive _).mono ?_
    rintro e w1 ⟨rfl, b1⟩
    go_wp2_with fail
    rw [HC.out]
    refine (h5 _).mono ?_
    rintro e w2 ⟨rfl, rfl⟩
    go_wp2_with fail
    refine (h1 _).mono ?_
    rintro e w3 ⟨rfl, b2⟩
    replace b1 := below_both b1 b2
    clear b2
    go_wp2_with fail
    refine (h2 _).mono ?_
    rintro e w4 ⟨rfl, b2⟩
    replace b1 := below_both b1 b2
    clear b2
    go_wp2_with fail
    refine (h3 _).mono ?_
    rintro e w5 ⟨rfl, b2⟩
    replace b1 := below_both b1 b2
    clear b2
    go_wp2_with fail
    refine (h4 _).mono ?_
    rintro e w6 ⟨rfl, b2⟩
    replace b1 := below_both b1 b2
    clear b2
    go_wp2
    all_goals (go_ret; exact ⟨rfl, b1⟩)
  · have hci : ¬ (cls c : Int) = 1 := by omega
    generalize cls c = y at *
    clear hc hcl hcc
    go_enter Try.func4, Try.ntmps4
    go_wp2_with fail
    refine (qalive _).mono ?_
    rintro e w1 ⟨rfl, b1⟩
    go_wp2_with fail
    rw [HC.out]
    refine (h5 _).mono ?_
    rintro e w2 ⟨rfl, rfl⟩
    go_wp2
    go_ret
    exact ⟨rfl, b1⟩
end Go.Proofs.Ytgobclmihppopab
