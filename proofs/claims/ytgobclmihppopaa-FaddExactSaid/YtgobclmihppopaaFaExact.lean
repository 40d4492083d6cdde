/- vernierlaw07.FaddExact, walked. -/
import Derived.Test.YtgobclmihppopaaFaLaw
import Derived.Test.YtgobclmihppopaaFaExactNum
namespace Go.Proofs.Ytgobclmihppopaa
open Go.RowKit Go.Shelf
theorem put_bits {x m : Nat} (p : Bool) (hx1 : 1 ≤ x) (hx2 : x ≤ 2046) (hm : m < 4294967296) :
    ∃ a : Nat, a < 18446744073709551616 ∧ (a : Int) = (x : Int) * 4503599627370496 + (m : Int) * 524288 + (sgn p : Int) ∧ neg6 a = p ∧ fe a ≠ 2047 ∧ sig a = 4503599627370496 + m * 524288 ∧ xpo a = (x : Int) - 1075 := by
  obtain ⟨h1, h2⟩ := sgn_fields p (t := x * 4503599627370496 + m * 524288) (by omega)
  have e1 : (x * 4503599627370496 + m * 524288) / 4503599627370496 = x := by omega
  have e2 : (x * 4503599627370496 + m * 524288) % 4503599627370496 = m * 524288 := by omega
  rw [e1] at h1
  rw [e2] at h2
  refine ⟨sgn p + (x * 4503599627370496 + m * 524288), ?_, by omega, ?_, by omega, ?_, ?_⟩
  · unfold sgn; split <;> omega
  · unfold neg6 sgn
    cases p
    · exact decide_eq_false (by simp; omega)
    · exact decide_eq_true (by simp; omega)
  · unfold sig
    rw [h1, h2, if_neg (by omega)]
    omega
  · unfold xpo
    rw [h1, if_neg (by omega)]
set_option maxRecDepth 100000 in
set_option maxHeartbeats 8000000 in
theorem faddExact_calls {m k e : Nat} {p q : Bool} {w : World} (hm : (m : Int) ≤ 4294967295) (hk : (k : Int) ≤ 4294967295) (he : (e : Int) ≤ 65535) :
    Calls Try.prog 6 #[.int .u32 (m : Int), .int .u32 (k : Int), .int .u16 (e : Int), .bool p, .bool q] w fun e W' => e = .returned (.bool true) ∧ Below w.heap.size w W' := by
  obtain ⟨r, hr⟩ : ∃ r, r = e % 1800 := ⟨_, rfl⟩
  have hr' : (e : Int) % 1800 = (r : Int) := by omega
  have hr1 : (r : Int) ≤ 1799 := by omega
  obtain ⟨a, a1, a2, a3, a4, a5, a6⟩ := put_bits (x := 100 + r) (m := m) p (by omega) (by omega) (by omega)
  obtain ⟨b, b1, b2, b3, b4, b5, b6⟩ := put_bits (x := 100 + r) (m := k) q (by omega) (by omega) (by omega)
  obtain ⟨s, s1, s2, s3⟩ := exact_sum (E := ((100 + r : Nat) : Int) - 1075) a1 b1 a4 b4 a6 b6 a5 b5 (by omega) (by omega) (by omega) (by omega)
  have hadd := fun w => fadd_add (a := a) (b := b) (mode := 0) (w := w) (by omega) (by omega)
  have hsub := fun w => fadd_sub (a := s) (b := b) (mode := 0) (w := w) (by omega) (by omega)
  rw [s2] at hadd
  rw [s3] at hsub
  have A2 := Lib.hid a2
  have B2 := Lib.hid b2
  clear a1 a2 a3 a4 a5 a6 b1 b2 b3 b4 b5 b6 s1 s2 s3 hr
  cases p
  · cases q
    · skip
      have EA : Hid ((100 + (r : Int)) * 4503599627370496 + (m : Int) * 524288 = (a : Int)) := Lib.hid (by have := A2.out; simp [sgn] at this; omega)
      have EB : Hid ((100 + (r : Int)) * 4503599627370496 + (k : Int) * 524288 = (b : Int)) := Lib.hid (by have := B2.out; simp [sgn] at this; omega)
      go_enter Try.func6, Try.ntmps6
      go_wp2_with fail
      refine (falive _).mono ?_
      rintro e w1 ⟨rfl, b1⟩
      go_wp2_with fail
      rw [EA.out, EB.out]
      refine (hadd _).mono ?_
      rintro e w2 ⟨rfl, b2⟩
      replace b1 := below_both b1 b2
      clear b2 hadd
      go_wp2_with fail
      refine (hsub _).mono ?_
      rintro e w3 ⟨rfl, b2⟩
      replace b1 := below_both b1 b2
      clear b2 hsub
      go_wp2
      go_ret
      exact ⟨rfl, b1⟩
    · skip
      have EA : Hid ((100 + (r : Int)) * 4503599627370496 + (m : Int) * 524288 = (a : Int)) := Lib.hid (by have := A2.out; simp [sgn] at this; omega)
      have EB : Hid ((100 + (r : Int)) * 4503599627370496 + (k : Int) * 524288 + 9223372036854775808 = (b : Int)) := Lib.hid (by have := B2.out; simp [sgn] at this; omega)
      go_enter Try.func6, Try.ntmps6
      go_wp2_with fail
      refine (falive _).mono ?_
      rintro e w1 ⟨rfl, b1⟩
      go_wp2_with fail
      rw [EA.out, EB.out]
      refine (hadd _).mono ?_
      rintro e w2 ⟨rfl, b2⟩
      replace b1 := below_both b1 b2
      clear b2 hadd
      go_wp2_with fail
      refine (hsub _).mono ?_
      rintro e w3 ⟨rfl, b2⟩
      replace b1 := below_both b1 b2
      clear b2 hsub
      go_wp2
      go_ret
      exact ⟨rfl, b1⟩
  · cases q
    · skip
      have EA : Hid ((100 + (r : Int)) * 4503599627370496 + (m : Int) * 524288 + 9223372036854775808 = (a : Int)) := Lib.hid (by have := A2.out; simp [sgn] at this; omega)
      have EB : Hid ((100 + (r : Int)) * 4503599627370496 + (k : Int) * 524288 = (b : Int)) := Lib.hid (by have := B2.out; simp [sgn] at this; omega)
      go_enter Try.func6, Try.ntmps6
      go_wp2_with fail
      refine (falive _).mono ?_
      rintro e w1 ⟨rfl, b1⟩
      go_wp2_with fail
      rw [EA.out, EB.out]
      refine (hadd _).mono ?_
      rintro e w2 ⟨rfl, b2⟩
      replace b1 := below_both b1 b2
      clear b2 hadd
      go_wp2_with fail
      refine (hsub _).mono ?_
      rintro e w3 ⟨rfl, b2⟩
      replace b1 := below_both b1 b2
      clear b2 hsub
      go_wp2
      go_ret
      exact ⟨rfl, b1⟩
    · skip
      have EA : Hid ((100 + (r : Int)) * 4503599627370496 + (m : Int) * 524288 + 9223372036854775808 = (a : Int)) := Lib.hid (by have := A2.out; simp [sgn] at this; omega)
      have EB : Hid ((100 + (r : Int)) * 4503599627370496 + (k : Int) * 524288 + 9223372036854775808 = (b : Int)) := Lib.hid (by have := B2.out; simp [sgn] at this; omega)
      go_enter Try.func6, Try.ntmps6
      go_wp2_with fail
      refine (falive _).mono ?_
      rintro e w1 ⟨rfl, b1⟩
      go_wp2_with fail
      rw [EA.out, EB.out]
      refine (hadd _).mono ?_
      rintro e w2 ⟨rfl, b2⟩
      replace b1 := below_both b1 b2
      clear b2 hadd
      go_wp2_with fail
      refine (hsub _).mono ?_
      rintro e w3 ⟨rfl, b2⟩
      replace b1 := below_both b1 b2
      clear b2 hsub
      go_wp2
      go_ret
      exact ⟨rfl, b1⟩
end Go.Proofs.Ytgobclmihppopaa
