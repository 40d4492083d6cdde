/- The law NeedThird, walked. -/
import Derived.Test.YtgppbimbampenaaNeCount
namespace Go.Proofs.Ytgppbimbampenaa
open Go.RowKit Go.Shelf
theorem side_z (a : Nat) : 1 + (a : Int) % 64 = ((1 + a % 64 : Nat) : Int) := by omega
theorem w_third {w p q r : Nat} (hp : p ≤ 64) (hq : q ≤ 64) (hr : r ≤ 64) (hw : w ≤ 5462) (h : 3 * w ≤ p * q + q * r + 2 * (p * r)) :
    decide (wrap64 (3 * (w : Int)) ≤ wrap64 (wrap64 (wrap64 ((p : Int) * (q : Int)) + wrap64 ((q : Int) * (r : Int))) + wrap64 (2 * (p : Int) * (r : Int)))) = true := by
  have a := mul_top hp hq (show 64 * 64 ≤ 4096 by decide)
  have b := mul_top hq hr (show 64 * 64 ≤ 4096 by decide)
  have c := mul_top hp hr (show 64 * 64 ≤ 4096 by decide)
  have d : 2 * p * r = 2 * (p * r) := Nat.mul_assoc _ _ _
  have l := wmul (x := 3) (y := (w : Int)) (X := 3) (Y := w) rfl rfl (by omega)
  have g := wadd (wadd (wmul (x := (p : Int)) (y := (q : Int)) rfl rfl (by omega)) (wmul (x := (q : Int)) (y := (r : Int)) rfl rfl (by omega)) (by omega)) (wmul (x := 2 * (p : Int)) (y := (r : Int)) (X := 2 * p) (by omega) rfl (by omega)) (by omega)
  rw [l, g]
  exact decide_eq_true (by omega)
theorem w_most {x p q r : Nat} (hp : p ≤ 64) (hq : q ≤ 64) (hr : r ≤ 64) (h : x ≤ p * q * r) : decide ((x : Int) ≤ wrap64 (wrap64 ((p : Int) * (q : Int)) * (r : Int))) = true := by
  rw [w_mkn hp hq hr]
  exact decide_eq_true (by omega)
set_option maxRecDepth 100000 in
set_option maxHeartbeats 4000000 in
theorem needThird_calls {a b d e : Nat} {w : World} (ha : a < 256) (hb : b < 256) (hd : d < 256) (he : e < 256) :
    Calls Try.prog 11 #[.int .u8 (a : Int), .int .u8 (b : Int), .int .u8 (d : Int), .int .u8 (e : Int)] w fun e W' => e = .returned (.bool true) ∧ Below w.heap.size w W' := by
  have hal := l27_alive (w := w)
  have h1 := fun w => need_product (m := 1 + a % 64) (k := 1 + b % 64) (n := 1 + d % 64) (c := 1 + e % 64) (w := w) (by omega) (by omega) (by omega) (by omega)
  have h2 := fun w => need_muls (m := 1 + a % 64) (k := 1 + b % 64) (n := 1 + d % 64) (c := 1 + e % 64) (w := w) (by omega) (by omega) (by omega) (by omega)
  have t1 := needN_third (1 + a % 64) (1 + b % 64) (1 + d % 64) (1 + e % 64)
  have t2 := cntN_le (1 + a % 64) (1 + b % 64) (1 + d % 64) (1 + e % 64)
  have t3 := needN_top (m := 1 + a % 64) (k := 1 + b % 64) (n := 1 + d % 64) (c := 1 + e % 64) (by omega) (by omega) (by omega)
  have w1 := w_third (p := 1 + a % 64) (q := 1 + b % 64) (r := 1 + d % 64) (by omega) (by omega) (by omega) t3 t1
  have w2 := w_most (p := 1 + a % 64) (q := 1 + b % 64) (r := 1 + d % 64) (by omega) (by omega) (by omega) t2
  generalize needN (1 + a % 64) (1 + b % 64) (1 + d % 64) (1 + e % 64) = N at *
  generalize cntN (fun _ _ _ => 0) (1 + a % 64) (1 + b % 64) (1 + d % 64) (1 + e % 64) = M at *
  clear t1 t2 t3
  rw [← side_z, ← side_z, ← side_z] at w1 w2
  have H1 := Lib.hid h1
  have H2 := Lib.hid h2
  simp only [← side_z] at h1 h2
  clear H1 H2
  go_enter Try.func11, Try.ntmps11
  go_wp2_with fail
  refine hal.mono ?_
  rintro e1 W1 ⟨rfl, b1⟩
  go_wp2_with fail
  refine (h1 _).mono ?_
  rintro e1 W2 ⟨rfl, rfl⟩
  go_wp2_with fail
  refine (h2 _).mono ?_
  rintro e1 W2 ⟨rfl, b2⟩
  clear h1 h2 hal
  go_wp2
  go_ret
  exact ⟨rfl, below_both b1 b2⟩
end Go.Proofs.Ytgppbimbampenaa
