/- fmul: what its calls keep. -/
import Derived.Test.YtjapilpjahhimaaPaOne
import Derived.Test.YtjapilpjahhimaaFmNum
import Derived.Test.YtjapilpjahhimaaStk
import Derived.Test.YtjapilpjahhimaaBits
import Derived.Laws.Bits64
namespace Go.Proofs.Ytjapilpjahhimaa
open Go.RowKit Go.Shelf

theorem xor_sign {a b : Nat} (ha : a < 18446744073709551616) (hb : b < 18446744073709551616) :
    ∃ X : Nat, bits .xor .u64 (a : Int) (b : Int) = (X : Int) ∧ X < 18446744073709551616 ∧ (((X : Int) / 9223372036854775808) != 0) = (neg6 a != neg6 b) := by
  have h := bits_xor_u64_nat a b ha hb
  have h1 := Nat.xor_div_two_pow (a := a) (b := b) (n := 63)
  have h2 : a ^^^ b < 2 ^ 64 := Nat.xor_lt_two_pow ha hb
  rw [show (2 : Nat) ^ 63 = 9223372036854775808 from rfl] at h1
  refine ⟨a ^^^ b, h, h2, ?_⟩
  generalize a ^^^ b = X at *
  have hx : (X : Int) / 9223372036854775808 = ((X / 9223372036854775808 : Nat) : Int) := by omega
  rw [hx, h1]
  have ha1 : a / 9223372036854775808 = if neg6 a then 1 else 0 := by
    unfold neg6
    by_cases c : (9223372036854775808 : Int) ≤ (a : Int)
    · rw [decide_eq_true c, if_pos rfl]; omega
    · rw [decide_eq_false c, if_neg Bool.false_ne_true]; omega
  have hb1 : b / 9223372036854775808 = if neg6 b then 1 else 0 := by
    unfold neg6
    by_cases c : (9223372036854775808 : Int) ≤ (b : Int)
    · rw [decide_eq_true c, if_pos rfl]; omega
    · rw [decide_eq_false c, if_neg Bool.false_ne_true]; omega
  rw [ha1, hb1]
  cases neg6 a <;> cases neg6 b <;> rfl
theorem fmul_unlike {a b : Nat} {w : World} (ha : (a : Int) ≤ 18446744073709551615) (hb : (b : Int) ≤ 18446744073709551615) :
    Calls Try.prog 91 #[.int .u64 (a : Int), .int .u64 (b : Int)] w fun e W' => e = .returned (.bool (neg6 a != neg6 b)) ∧ w = W' := by
  obtain ⟨X, hx, hX, hn⟩ := xor_sign (a := a) (b := b) (by omega) (by omega)
  have hX' : (X : Int) ≤ 18446744073709551615 := by omega
  clear hX
  generalize (neg6 a != neg6 b) = s at *
  go_enter Try.func91, Try.ntmps91
  go_wp2
  go_ret
  exact ⟨rfl, rfl⟩
theorem mul_words {x y : Nat} : mulHi x y * 18446744073709551616 + mulLo x y = x * y := by
  unfold mulHi mulLo
  rw [Nat.mul_comm (x * y / 18446744073709551616)]
  exact Nat.div_add_mod _ _
theorem mulLo_le {x y : Nat} : (mulLo x y : Int) ≤ 18446744073709551615 := by
  have h : mulLo x y < 18446744073709551616 := Nat.mod_lt _ (by decide)
  omega
theorem mulHi_le {x y : Nat} (hx : x < 18446744073709551616) (hy : y < 18446744073709551616) : (mulHi x y : Int) ≤ 18446744073709551615 := by
  have h : mulHi x y < 18446744073709551616 := Nat.div_lt_of_lt_mul (Nat.mul_lt_mul'' hx hy)
  omega
set_option maxRecDepth 100000 in
set_option maxHeartbeats 4000000 in
theorem fmul_fin {a b : Nat} {mode : Int} {w : World} (ha : (a : Int) ≤ 18446744073709551615) (hb : (b : Int) ≤ 18446744073709551615) (ca : cls a = 1) (cb : cls b = 1) :
    Calls Try.prog 93 #[.int .u64 (a : Int), .int .u64 (b : Int), .int .i64 mode] w fun e W' => e = .returned (.tuple #[.int .u64 ((rmul a b mode).1 : Int), .int .i64 ((rmul a b mode).2 : Int)]) ∧ Below w.heap.size w W' := by
  have fa : fe a ≠ 2047 := cls_fin.1 (by omega)
  have fb : fe b ≠ 2047 := cls_fin.1 (by omega)
  have hA := psplit_fin1 (w := w) ha fa
  have hB := psplit_fin1 (w := w) hb fb
  have xa := xpo_range06 a
  have xb := xpo_range06 b
  have sa := (sig_fits fa).1.2.1
  have sb := (sig_fits fb).1.2.1
  have pa := sig_pos ca
  have pb := sig_pos cb
  have e : rmul a b mode = rnd (neg6 a != neg6 b) (sig a * sig b) 1 (xpo a + xpo b) mode := by
    unfold rmul
    rw [if_neg (by omega), if_neg (by omega), if_neg (by omega), if_neg (by omega)]
  rw [e]
  clear e ha hb fa fb ca cb
  generalize sig a = mA at *
  generalize sig b = mB at *
  generalize xpo a = xA at *
  generalize xpo b = xB at *
  generalize neg6 a = sA at *
  generalize neg6 b = sB at *
  obtain ⟨s, hs⟩ : ∃ s, (sA != sB) = s := ⟨_, rfl⟩
  rw [hs]
  have hm := mul64_calls mA mB (by omega) (by omega) w
  have hne : mulHi mA mB * 18446744073709551616 + mulLo mA mB ≠ 0 := by
    have hpr : 0 < mA * mB := Nat.mul_pos pa pb
    rw [mul_words]
    omega
  have hr := pround (neg := s) (more := false) (hi := mulHi mA mB) (lo := mulLo mA mB) (exp := xA + xB) (mode := mode) (w := w) (mulHi_le (by omega) (by omega)) mulLo_le (by omega) (by omega)
  rw [prnd_plain hne (by omega) (by omega), mul_words] at hr
  have h1 : (mulHi mA mB : Int) ≤ 18446744073709551615 := mulHi_le (by omega) (by omega)
  have h2 : (mulLo mA mB : Int) ≤ 18446744073709551615 := mulLo_le
  clear hne pa pb sa sb
  generalize mulHi mA mB = H at *
  generalize mulLo mA mB = L at *
  generalize mA * mB = M at *
  generalize rnd s M 1 (xA + xB) mode = P at *
  obtain ⟨x1, x2⟩ := xa
  obtain ⟨x3, x4⟩ := xb
  cases sA <;> cases sB
  all_goals
    subst hs
    go_enter Try.func93, Try.ntmps93
    go_wp2_with fail
    refine hA.mono ?_
    rintro e w1 ⟨rfl, rfl⟩
    clear hA
    go_wp2_with fail
    refine hB.mono ?_
    rintro e w1 ⟨rfl, rfl⟩
    clear hB
    go_wp2_with fail
    refine hm.mono ?_
    rintro e w1 ⟨rfl, rfl⟩
    clear hm
    go_wp2_with fail
    refine hr.mono ?_
    rintro e w1 ⟨rfl, b1⟩
    go_wp2
    go_ret2
    exact ⟨rfl, b1⟩
set_option maxRecDepth 100000 in
set_option maxHeartbeats 4000000 in
theorem fmul_mul {a b : Nat} {mode : Int} {w : World} (ha : (a : Int) ≤ 18446744073709551615) (hb : (b : Int) ≤ 18446744073709551615) :
    Calls Try.prog 67 #[.int .u64 (a : Int), .int .u64 (b : Int), .int .i64 mode] w fun e W' => e = .returned (.tuple #[.int .u64 ((rmul a b mode).1 : Int), .int .i64 ((rmul a b mode).2 : Int)]) ∧ Below w.heap.size w W' := by
  have hA := fun u => pclass1 (w := u) ha
  have hB := fun u => pclass1 (w := u) hb
  have hU := fun u => fmul_unlike (w := u) ha hb
  have hI := fun u => pinf1 (neg6 a != neg6 b) u
  have hZ := fun u => pzero1 (neg6 a != neg6 b) u
  have ca3 := cls_le a
  have cb3 := cls_le b
  have hF := fun h1 h2 u => fmul_fin (mode := mode) (w := u) ha hb h1 h2
  obtain ⟨P, hP⟩ : ∃ P, P = rmul a b mode := ⟨_, rfl⟩
  rw [← hP] at hF ⊢
  unfold rmul at hP
  generalize (neg6 a != neg6 b) = s at *
  generalize rnd s (sig a * sig b) 1 (xpo a + xpo b) mode = R at *
  generalize cls a = ca at *
  generalize cls b = cb at *
  have ca4 : ca = 0 ∨ ca = 1 ∨ ca = 2 ∨ ca = 3 := by omega
  have cb4 : cb = 0 ∨ cb = 1 ∨ cb = 2 ∨ cb = 3 := by omega
  clear ca3 cb3
  rcases ca4 with rfl | rfl | rfl | rfl
  · rcases cb4 with rfl | rfl | rfl | rfl
    · skip
      rw [if_neg (by decide), if_neg (by decide), if_neg (by decide), if_pos (by decide)] at hP
      subst hP
      clear hF
      go_enter Try.func67, Try.ntmps67
      go_wp2_with fail
      refine (hA _).mono ?_
      rintro e w1 ⟨rfl, rfl⟩
      clear hA
      go_wp2_with fail
      refine (hB _).mono ?_
      rintro e w1 ⟨rfl, rfl⟩
      clear hB
      go_wp2_with fail
      refine (hU _).mono ?_
      rintro e w1 ⟨rfl, rfl⟩
      go_wp2_with fail
      refine (hZ _).mono ?_
      rintro e w1 ⟨rfl, rfl⟩
      go_wp2
      go_ret2
      exact ⟨rfl, Below.refl _ _⟩
    · skip
      rw [if_neg (by decide), if_neg (by decide), if_neg (by decide), if_pos (by decide)] at hP
      subst hP
      clear hF
      go_enter Try.func67, Try.ntmps67
      go_wp2_with fail
      refine (hA _).mono ?_
      rintro e w1 ⟨rfl, rfl⟩
      clear hA
      go_wp2_with fail
      refine (hB _).mono ?_
      rintro e w1 ⟨rfl, rfl⟩
      clear hB
      go_wp2_with fail
      refine (hU _).mono ?_
      rintro e w1 ⟨rfl, rfl⟩
      go_wp2_with fail
      refine (hZ _).mono ?_
      rintro e w1 ⟨rfl, rfl⟩
      go_wp2
      go_ret2
      exact ⟨rfl, Below.refl _ _⟩
    · skip
      rw [if_neg (by decide), if_pos (by decide)] at hP
      subst hP
      clear hF
      go_enter Try.func67, Try.ntmps67
      go_wp2_with fail
      refine (hA _).mono ?_
      rintro e w1 ⟨rfl, rfl⟩
      clear hA
      go_wp2_with fail
      refine (hB _).mono ?_
      rintro e w1 ⟨rfl, rfl⟩
      clear hB
      go_wp2
      go_ret2
      exact ⟨rfl, Below.refl _ _⟩
    · skip
      rw [if_pos (by decide)] at hP
      subst hP
      clear hF
      go_enter Try.func67, Try.ntmps67
      go_wp2_with fail
      refine (hA _).mono ?_
      rintro e w1 ⟨rfl, rfl⟩
      clear hA
      go_wp2_with fail
      refine (hB _).mono ?_
      rintro e w1 ⟨rfl, rfl⟩
      clear hB
      go_wp2
      go_ret2
      exact ⟨rfl, Below.refl _ _⟩
  · rcases cb4 with rfl | rfl | rfl | rfl
    · skip
      rw [if_neg (by decide), if_neg (by decide), if_neg (by decide), if_pos (by decide)] at hP
      subst hP
      clear hF
      go_enter Try.func67, Try.ntmps67
      go_wp2_with fail
      refine (hA _).mono ?_
      rintro e w1 ⟨rfl, rfl⟩
      clear hA
      go_wp2_with fail
      refine (hB _).mono ?_
      rintro e w1 ⟨rfl, rfl⟩
      clear hB
      go_wp2_with fail
      refine (hU _).mono ?_
      rintro e w1 ⟨rfl, rfl⟩
      go_wp2_with fail
      refine (hZ _).mono ?_
      rintro e w1 ⟨rfl, rfl⟩
      go_wp2
      go_ret2
      exact ⟨rfl, Below.refl _ _⟩
    · skip
      clear hP
      replace hF := hF rfl rfl
      go_enter Try.func67, Try.ntmps67
      go_wp2_with fail
      refine (hA _).mono ?_
      rintro e w1 ⟨rfl, rfl⟩
      clear hA
      go_wp2_with fail
      refine (hB _).mono ?_
      rintro e w1 ⟨rfl, rfl⟩
      clear hB
      go_wp2_with fail
      refine (hF _).mono ?_
      rintro e w1 ⟨rfl, b1⟩
      go_wp2
      go_ret2
      exact ⟨rfl, b1⟩
    · skip
      rw [if_neg (by decide), if_neg (by decide), if_pos (by decide)] at hP
      subst hP
      clear hF
      go_enter Try.func67, Try.ntmps67
      go_wp2_with fail
      refine (hA _).mono ?_
      rintro e w1 ⟨rfl, rfl⟩
      clear hA
      go_wp2_with fail
      refine (hB _).mono ?_
      rintro e w1 ⟨rfl, rfl⟩
      clear hB
      go_wp2_with fail
      refine (hU _).mono ?_
      rintro e w1 ⟨rfl, rfl⟩
      go_wp2_with fail
      refine (hI _).mono ?_
      rintro e w1 ⟨rfl, rfl⟩
      go_wp2
      go_ret2
      exact ⟨rfl, Below.refl _ _⟩
    · skip
      rw [if_pos (by decide)] at hP
      subst hP
      clear hF
      go_enter Try.func67, Try.ntmps67
      go_wp2_with fail
      refine (hA _).mono ?_
      rintro e w1 ⟨rfl, rfl⟩
      clear hA
      go_wp2_with fail
      refine (hB _).mono ?_
      rintro e w1 ⟨rfl, rfl⟩
      clear hB
      go_wp2
      go_ret2
      exact ⟨rfl, Below.refl _ _⟩
  · rcases cb4 with rfl | rfl | rfl | rfl
    · skip
      rw [if_neg (by decide), if_pos (by decide)] at hP
      subst hP
      clear hF
      go_enter Try.func67, Try.ntmps67
      go_wp2_with fail
      refine (hA _).mono ?_
      rintro e w1 ⟨rfl, rfl⟩
      clear hA
      go_wp2_with fail
      refine (hB _).mono ?_
      rintro e w1 ⟨rfl, rfl⟩
      clear hB
      go_wp2
      go_ret2
      exact ⟨rfl, Below.refl _ _⟩
    · skip
      rw [if_neg (by decide), if_neg (by decide), if_pos (by decide)] at hP
      subst hP
      clear hF
      go_enter Try.func67, Try.ntmps67
      go_wp2_with fail
      refine (hA _).mono ?_
      rintro e w1 ⟨rfl, rfl⟩
      clear hA
      go_wp2_with fail
      refine (hB _).mono ?_
      rintro e w1 ⟨rfl, rfl⟩
      clear hB
      go_wp2_with fail
      refine (hU _).mono ?_
      rintro e w1 ⟨rfl, rfl⟩
      go_wp2_with fail
      refine (hI _).mono ?_
      rintro e w1 ⟨rfl, rfl⟩
      go_wp2
      go_ret2
      exact ⟨rfl, Below.refl _ _⟩
    · skip
      rw [if_neg (by decide), if_neg (by decide), if_pos (by decide)] at hP
      subst hP
      clear hF
      go_enter Try.func67, Try.ntmps67
      go_wp2_with fail
      refine (hA _).mono ?_
      rintro e w1 ⟨rfl, rfl⟩
      clear hA
      go_wp2_with fail
      refine (hB _).mono ?_
      rintro e w1 ⟨rfl, rfl⟩
      clear hB
      go_wp2_with fail
      refine (hU _).mono ?_
      rintro e w1 ⟨rfl, rfl⟩
      go_wp2_with fail
      refine (hI _).mono ?_
      rintro e w1 ⟨rfl, rfl⟩
      go_wp2
      go_ret2
      exact ⟨rfl, Below.refl _ _⟩
    · skip
      rw [if_pos (by decide)] at hP
      subst hP
      clear hF
      go_enter Try.func67, Try.ntmps67
      go_wp2_with fail
      refine (hA _).mono ?_
      rintro e w1 ⟨rfl, rfl⟩
      clear hA
      go_wp2_with fail
      refine (hB _).mono ?_
      rintro e w1 ⟨rfl, rfl⟩
      clear hB
      go_wp2
      go_ret2
      exact ⟨rfl, Below.refl _ _⟩
  · rcases cb4 with rfl | rfl | rfl | rfl
    · skip
      rw [if_pos (by decide)] at hP
      subst hP
      clear hF
      go_enter Try.func67, Try.ntmps67
      go_wp2_with fail
      refine (hA _).mono ?_
      rintro e w1 ⟨rfl, rfl⟩
      clear hA
      go_wp2_with fail
      refine (hB _).mono ?_
      rintro e w1 ⟨rfl, rfl⟩
      clear hB
      go_wp2
      go_ret2
      exact ⟨rfl, Below.refl _ _⟩
    · skip
      rw [if_pos (by decide)] at hP
      subst hP
      clear hF
      go_enter Try.func67, Try.ntmps67
      go_wp2_with fail
      refine (hA _).mono ?_
      rintro e w1 ⟨rfl, rfl⟩
      clear hA
      go_wp2_with fail
      refine (hB _).mono ?_
      rintro e w1 ⟨rfl, rfl⟩
      clear hB
      go_wp2
      go_ret2
      exact ⟨rfl, Below.refl _ _⟩
    · skip
      rw [if_pos (by decide)] at hP
      subst hP
      clear hF
      go_enter Try.func67, Try.ntmps67
      go_wp2_with fail
      refine (hA _).mono ?_
      rintro e w1 ⟨rfl, rfl⟩
      clear hA
      go_wp2_with fail
      refine (hB _).mono ?_
      rintro e w1 ⟨rfl, rfl⟩
      clear hB
      go_wp2
      go_ret2
      exact ⟨rfl, Below.refl _ _⟩
    · skip
      rw [if_pos (by decide)] at hP
      subst hP
      clear hF
      go_enter Try.func67, Try.ntmps67
      go_wp2_with fail
      refine (hA _).mono ?_
      rintro e w1 ⟨rfl, rfl⟩
      clear hA
      go_wp2_with fail
      refine (hB _).mono ?_
      rintro e w1 ⟨rfl, rfl⟩
      clear hB
      go_wp2
      go_ret2
      exact ⟨rfl, Below.refl _ _⟩
end Go.Proofs.Ytjapilpjahhimaa
