/- fmul: what its calls keep. -/
import Derived.Test.YtgobclmihppopabPaSpec
import Derived.Test.YtgobclmihppopabFmNum
import Derived.Test.YtgobclmihppopabStk
import Derived.Test.YtgobclmihppopabBits
import Derived.Laws.Bits64
namespace Go.Proofs.Ytgobclmihppopab
open Go.RowKit Go.Shelf

theorem xor_sign {a b : Nat} (ha : a < 18446744073709551616) (hb : b < 18446744073709551616) :
    ∃ X : Nat, bits .xor .u64 (a : Int) (b : Int) = (X : Int) ∧ X < 18446744073709551616 ∧ (((X : Int) / 9223372036854775808) != 0) = (neg6 a != neg6 b) := by
  have h := bits_xor_u64_nat a b ha hb
  have h1 := Nat.xor_div_two_pow (a := a) (b := b) (n := 63)
  have h2 : a ^^^ b < 2 ^ 64 := Nat.xor_lt_two_pow ha hb
  rw [show (2 : Nat) ^ 63 = 9223372036854775808 from rfl] at h1
  refine ⟨a ^^^ b, h, h2, ?_⟩
  generalize a ^^^ b = X at *
  have hx : (X : Int) / 9223372036854775808 = ((X / 9223372036854775808 : Nat) : Int) := by omega
  rw [hx, h1]
  have ha1 : a / 9223372036854775808 = if neg6 a then 1 else 0 := by
    unfold neg6
    by_cases c : (9223372036854775808 : Int) ≤ (a : Int)
    · rw [decide_eq_true c, if_pos rfl]; omega
    · rw [decide_eq_false c, if_neg Bool.false_ne_true]; omega
  have hb1 : b / 9223372036854775808 = if neg6 b then 1 else 0 := by
    unfold neg6
    by_cases c : (9223372036854775808 : Int) ≤ (b : Int)
    · rw [decide_eq_true c, if_pos rfl]; omega
    · rw [decide_eq_false c, if_neg Bool.false_ne_true]; omega
  rw [ha1, hb1]
  cases neg6 a <;> cases neg6 b <;> rfl
theorem mul_words {x y : Nat} : mulHi x y * 18446744073709551616 + mulLo x y = x * y := by
  unfold mulHi mulLo
  rw [Nat.mul_comm (x * y / 18446744073709551616)]
  exact Nat.div_add_mod _ _
theorem mulLo_le {x y : Nat} : (mulLo x y : Int) ≤ 18446744073709551615 := by
  have h : mulLo x y < 18446744073709551616 := Nat.mod_lt _ (by decide)
  omega
theorem mulHi_le {x y : Nat} (hx : x < 18446744073709551616) (hy : y < 18446744073709551616) : (mulHi x y : Int) ≤ 18446744073709551615 := by
  have h : mulHi x y < 18446744073709551616 := Nat.div_lt_of_lt_mul (Nat.mul_lt_mul'' hx hy)
  omega
set_option maxRecDepth 100000 in
set_option maxHeartbeats 4000000 in
theorem fmul_scale {a : Nat} {n mode : Int} {w : World} (ha : (a : Int) ≤ 18446744073709551615) (h1 : -9223372036854775808 ≤ n) (h2 : n ≤ 9223372036854775807) :
    Calls Try.prog 46 #[.int .u64 (a : Int), .int .i64 n, .int .i64 mode] w fun e W' => e = .returned (.tuple #[.int .u64 ((rscale a n mode).1 : Int), .int .i64 ((rscale a n mode).2 : Int)]) ∧ Below w.heap.size w W' := by
  have hA := pclass1 (w := w) ha
  have hS := fun h => psplit_fin1 (w := w) ha (cls_fin.1 h)
  have ca3 := cls_le a
  have hpos := fun h => sig_pos (a := a) h
  have hsg := fun h => (sig_fits (a := a) (cls_fin.1 h)).1.2.1
  have xa := xpo_range06 a
  obtain ⟨P, hP⟩ : ∃ P, P = rscale a n mode := ⟨_, rfl⟩
  rw [← hP]
  unfold rscale at hP
  have hcl : min (max n (-8192)) 8192 = clampS n := rfl
  have hc1 : -8192 ≤ clampS n := by unfold clampS; omega
  have hc2 : clampS n ≤ 8192 := by unfold clampS; omega
  generalize clampS n = c at *
  generalize cls a = ca at *
  have ca4 : ca = 0 ∨ ca = 1 ∨ ca = 2 ∨ ca = 3 := by omega
  clear ca3
  rcases ca4 with rfl | rfl | rfl | rfl
  · rw [if_neg (by decide), if_pos (by decide)] at hP
    subst hP
    clear hS hpos hsg
    go_enter Try.func46, Try.ntmps46
    go_wp2_with fail
    refine hA.mono ?_
    rintro e w1 ⟨rfl, rfl⟩
    clear hA
    go_wp2
    go_ret2
    exact ⟨rfl, Below.refl _ _⟩
  · rw [if_neg (by decide), if_neg (by decide)] at hP
    replace hS := hS (by decide)
    replace hsg := hsg (by decide)
    replace hpos := hpos rfl
    generalize sig a = mA at *
    generalize xpo a = xA at *
    generalize neg6 a = sA at *
    have hr := pround (neg := sA) (more := false) (hi := 0) (lo := mA) (exp := xA + c) (mode := mode) (w := w) (by omega) (by omega) (by omega) (by omega)
    rw [prnd_plain (by omega) (by omega) (by omega), Nat.zero_mul, Nat.zero_add, ← hP] at hr
    obtain ⟨x1, x2⟩ := xa
    clear hP hpos hsg
    go_enter Try.func46, Try.ntmps46
    go_wp2_with fail
    refine hA.mono ?_
    rintro e w1 ⟨rfl, rfl⟩
    clear hA
    go_wp2_with fail
    refine hS.mono ?_
    rintro e w1 ⟨rfl, rfl⟩
    clear hS
    go_wp2_with fail
    refine hr.mono ?_
    rintro e w1 ⟨rfl, b1⟩
    go_wp2
    go_ret2
    exact ⟨rfl, b1⟩
  · rw [if_neg (by decide), if_pos (by decide)] at hP
    subst hP
    clear hS hpos hsg
    go_enter Try.func46, Try.ntmps46
    go_wp2_with fail
    refine hA.mono ?_
    rintro e w1 ⟨rfl, rfl⟩
    clear hA
    go_wp2
    go_ret2
    exact ⟨rfl, Below.refl _ _⟩
  · rw [if_pos (by decide)] at hP
    subst hP
    clear hS hpos hsg
    go_enter Try.func46, Try.ntmps46
    go_wp2_with fail
    refine hA.mono ?_
    rintro e w1 ⟨rfl, rfl⟩
    clear hA
    go_wp2
    go_ret2
    exact ⟨rfl, Below.refl _ _⟩
end Go.Proofs.Ytgobclmihppopab
