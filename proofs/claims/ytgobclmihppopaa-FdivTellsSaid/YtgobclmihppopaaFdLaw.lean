/- vernierlaw09: alive, FdivTells, FdivSelf, FdivBack. -/
import Derived.Test.YtgobclmihppopaaFdSpec
import Derived.Deep.Cut
namespace Go.Proofs.Ytgobclmihppopaa
open Go.RowKit Go.Shelf
theorem rdiv_half : rdiv6 4607182418800017408 4611686018427387904 0 = (4602678819172646912, 0) := by
  have e1 : neg6 4607182418800017408 = false := by decide
  have e2 : sig 4607182418800017408 = 4503599627370496 := by decide
  have e3 : xpo 4607182418800017408 = -52 := by decide
  have g1 : neg6 4611686018427387904 = false := by decide
  have g2 : sig 4611686018427387904 = 4503599627370496 := by decide
  have g3 : xpo 4611686018427387904 = -51 := by decide
  have f1 : neg6 4602678819172646912 = false := by decide
  have f2 : sig 4602678819172646912 = 4503599627370496 := by decide
  have f3 : xpo 4602678819172646912 = -53 := by decide
  have c1 : cls 4607182418800017408 = 1 := by decide
  have c2 : cls 4611686018427387904 = 1 := by decide
  have h := rnd_told (a := 4602678819172646912) (num := 4503599627370496) (den := 4503599627370496) (exp := -52 - -51) (mode := 0) (by decide) (by decide) (by decide) (by decide) (by
    rw [f2, f3, show (-52 - -51 : Int) - -53 = ((52 : Nat) : Int) from rfl, upper_nat]
    unfold lower
    rw [pw_of_le (by omega)])
  rw [f1] at h
  unfold rdiv6
  rw [c1, c2, e1, e2, e3, g1, g2, g3, if_neg (by omega), if_neg (by omega), if_neg (by omega), if_neg (by omega), if_neg (by omega)]
  exact h
theorem dalive (w : World) : Calls Try.prog 31 #[] w fun e W' => e = .returned (.bool true) ∧ Below w.heap.size w W' := by
  have h := fdiv_div (a := 4607182418800017408) (b := 4611686018427387904) (mode := 0) (w := w) (by omega) (by omega)
  rw [rdiv_half] at h
  go_enter Try.func31, Try.ntmps31
  go_wp2_with fail
  refine Calls.mono h ?_
  rintro e w1 ⟨rfl, b1⟩
  go_wp2
  go_ret
  exact ⟨rfl, b1⟩
set_option maxRecDepth 100000 in
set_option maxHeartbeats 4000000 in
theorem fdivTells_calls {a b : Nat} {mode : Int} {w : World} (ha : (a : Int) ≤ 18446744073709551615) (hb : (b : Int) ≤ 18446744073709551615) :
    Calls Try.prog 11 #[.int .u64 (a : Int), .int .u64 (b : Int), .int .i64 mode] w fun e W' => e = .returned (.bool true) ∧ Below w.heap.size w W' := by
  have h1 := fun w => fdiv_div (mode := mode) (w := w) ha hb
  have h2 := fun w => div6 (mode := mode) (w := w) ha hb
  have h3 := fun w => fdiv_inv (mode := mode) (w := w) ha
  have h4 := fun w => div6 (a := 4607182418800017408) (mode := mode) (w := w) (by omega) ha
  generalize rdiv6 a b mode = p at *
  generalize rdiv6 4607182418800017408 a mode = q at *
  obtain ⟨x, f⟩ := p
  obtain ⟨y, g⟩ := q
  go_enter Try.func11, Try.ntmps11
  go_wp2_with fail
  refine (h1 _).mono ?_
  rintro e w1 ⟨rfl, b1⟩
  go_wp2_with fail
  refine (h2 _).mono ?_
  rintro e w2 ⟨rfl, b2⟩
  replace b1 := below_both b1 b2
  clear b2
  go_wp2_with fail
  refine (h3 _).mono ?_
  rintro e w3 ⟨rfl, b2⟩
  replace b1 := below_both b1 b2
  clear b2
  go_wp2_with fail
  refine (h4 _).mono ?_
  rintro e w4 ⟨rfl, b2⟩
  replace b1 := below_both b1 b2
  clear b2
  go_wp2_with fail
  refine (dalive _).mono ?_
  rintro e w5 ⟨rfl, b2⟩
  replace b1 := below_both b1 b2
  clear b2
  go_wp2
  all_goals (go_ret; exact ⟨rfl, b1⟩)
set_option maxRecDepth 100000 in
set_option maxHeartbeats 4000000 in
theorem fdivSelf_calls {a : Nat} {mode : Int} {w : World} (ha : (a : Int) ≤ 18446744073709551615) :
    Calls Try.prog 12 #[.int .u64 (a : Int), .int .i64 mode] w fun e W' => e = .returned (.bool true) ∧ Below w.heap.size w W' := by
  have h5 := fun w => class6 (W := w) ha
  by_cases hc : cls a = 1
  · have h1 := fun w => fdiv_div (mode := mode) (w := w) ha ha
    have h2 := fun w => fdiv_div (b := 4607182418800017408) (mode := mode) (w := w) ha (by omega)
    rw [rdiv_self hc] at h1
    rw [rdiv_one (by omega) hc] at h2
    rw [hc] at h5
    dsimp only at h1 h2
    clear hc
    go_enter Try.func12, Try.ntmps12
    go_wp2_with fail
    refine (dalive _).mono ?_
    rintro e w1 ⟨rfl, b1⟩
    go_wp2_with fail
    refine (h5 _).mono ?_
    rintro e w2 ⟨rfl, rfl⟩
    go_wp2_with fail
    refine (h1 _).mono ?_
    rintro e w3 ⟨rfl, b2⟩
    replace b1 := below_both b1 b2
    clear b2
    go_wp2_with fail
    refine (h2 _).mono ?_
    rintro e w4 ⟨rfl, b2⟩
    replace b1 := below_both b1 b2
    clear b2
    go_wp2
    all_goals (go_ret; exact ⟨rfl, b1⟩)
  · have hci : ¬ (cls a : Int) = 1 := by omega
    generalize cls a = y at *
    clear hc
    go_enter Try.func12, Try.ntmps12
    go_wp2_with fail
    refine (dalive _).mono ?_
    rintro e w1 ⟨rfl, b1⟩
    go_wp2_with fail
    refine (h5 _).mono ?_
    rintro e w2 ⟨rfl, rfl⟩
    go_wp2
    all_goals (go_ret; exact ⟨rfl, b1⟩)
set_option maxRecDepth 100000 in
set_option maxHeartbeats 4000000 in
theorem vernierof_calls {n : Nat} {w : World} (n1 : 1 ≤ n) (n2 : (n : Int) ≤ 67108864) :
    Calls Try.prog 32 #[.int .u64 (n : Int)] w fun e W' => ∃ a : Nat, e = .returned (.int .u64 (a : Int)) ∧ Whole6 a n ∧ w = W' := by
  go_enter Try.func32, Try.ntmps32
  go_wp2
  go_loop [0, 3] (fun x e => ∃ t X : Nat, t ≤ 52 ∧ x = .int .u64 (X : Int) ∧ Hid (X = n * 2 ^ t) ∧ (X : Int) ≤ 9007199254740991 ∧ e = .int .u64 (1075 - (t : Int))) (fun x _ => 9007199254740992 - (intOf x).toNat)
  case atStart => exact ⟨0, n, by omega, rfl, Lib.hid (by simp), by omega, rfl⟩
  case round =>
    obtain ⟨t, X, ht, rfl, hX, hX1, rfl⟩ := hrel
    by_cases hlt : (4503599627370496 : Int) ≤ (X : Int)
    · obtain ⟨s, s1, s2, s3, s4, s5⟩ := bits_of false (q := X) (e := -(t : Int)) ⟨by omega, by omega, .inl (by omega)⟩ (by omega)
      have hb := bits_eq s1
      obtain ⟨_, k1, _⟩ := sig_fits s3
      rw [s2] at hb
      rw [s4, s5] at k1
      have hval : Hid ((1075 - (t : Int)) * 4503599627370496 + (X : Int) - 4503599627370496 = (s : Int)) := Lib.hid (by
        have e1 : sgn false = 0 := rfl
        rw [e1] at hb
        obtain ⟨u, hu⟩ : ∃ u : Nat, (-(t : Int) + 1074).toNat = u := ⟨_, rfl⟩
        rw [hu] at k1
        have : (u : Int) = 1074 - (t : Int) := by omega
        omega)
      have HW : Hid (Whole6 s n) := Lib.hid ⟨s1, s2, s3, t, by rw [s4, hX.out], s5, ht⟩
      clear hb k1 s1 s2 s3 s4 s5 hX
      go_upto_if 5 with (fail)
      rw [decide_eq_false (show ¬ ((X : Int) < 4503599627370496) by omega)]
      obtain ⟨x, hx⟩ : ∃ x : Nat, 1075 - (t : Int) = (x : Int) := ⟨1075 - t, by omega⟩
      have hv := hval.out
      rw [hx] at hv ⊢
      have hX3 : (X : Int) < 9007199254740992 := by omega
      have hx3 : (x : Int) ≤ 1075 := by omega
      have HV := Lib.hid hv
      clear hX1 hx ht hval hv
      go_wp2
      go_ret
      exact ⟨s, by rw [← HV.out]; rfl, HW.out, rfl⟩
    · have ht1 : t + 1 ≤ 52 := by
        refine Nat.not_lt.1 fun hh => ?_
        obtain rfl : t = 52 := by omega
        have := hX.out
        have : 1 * 2 ^ 52 ≤ n * 2 ^ 52 := Nat.mul_le_mul_right _ n1
        omega
      have HX2 : Hid (2 * X = n * 2 ^ (t + 1)) := Lib.hid (by rw [hX.out, Nat.pow_succ, Nat.mul_comm 2, Nat.mul_assoc])
      have hx2 : ((2 * X : Nat) : Int) ≤ 9007199254740991 := by omega
      have hm : 9007199254740992 - 2 * X < 9007199254740992 - X := by
        have h0 : 1 ≤ X := by
          rw [hX.out]
          exact Nat.mul_pos n1 (Nat.two_pow_pos _)
        omega
      have HM := Lib.hid hm
      clear hX hm
      have hd : (X : Int) < 4503599627370496 := by omega
      have HD := Lib.hid hd
      clear hd
      go_upto_if 5 with (fail)
      rw [decide_eq_true HD.out]
      have hX3 : (X : Int) ≤ 4503599627370499 := by omega
      have ht3 : (t : Int) ≤ 52 := by omega
      clear hlt
      go_wp2
      go_round
      case rel => exact ⟨t + 1, 2 * X, ht1, by simp, HX2, hx2, by simp; omega⟩
      case measure => have := HM.out; simp [intOf]; omega
set_option maxRecDepth 100000 in
set_option maxHeartbeats 4000000 in
theorem fdivBack_calls {m k : Nat} {w : World} (hm : (m : Int) ≤ 4294967295) (hk : (k : Int) ≤ 4294967295) :
    Calls Try.prog 13 #[.int .u32 (m : Int), .int .u32 (k : Int)] w fun e W' => e = .returned (.bool true) ∧ Below w.heap.size w W' := by
  obtain ⟨x, hx⟩ : ∃ x : Nat, (m : Int) % 67108864 + 1 = (x : Int) := ⟨m % 67108864 + 1, by omega⟩
  obtain ⟨y, hy⟩ : ∃ y : Nat, (k : Int) % 67108864 + 1 = (y : Int) := ⟨k % 67108864 + 1, by omega⟩
  have x1 : 1 ≤ x := by omega
  have y1 : 1 ≤ y := by omega
  have x2 : (x : Int) ≤ 67108864 := by omega
  have y2 : (y : Int) ≤ 67108864 := by omega
  have HX := Lib.hid hx
  have HY := Lib.hid hy
  clear hx hy
  go_enter Try.func13, Try.ntmps13
  go_wp2_with fail
  refine (dalive _).mono ?_
  rintro e w1 ⟨rfl, b1⟩
  go_wp2_with fail
  rw [HX.out]
  refine (vernierof_calls x1 x2).mono ?_
  rintro e w2 ⟨a, rfl, ha, rfl⟩
  go_wp2_with fail
  rw [HY.out]
  refine (vernierof_calls y1 y2).mono ?_
  rintro e w2 ⟨b, rfl, hb, rfl⟩
  have hxy : x * y < 9007199254740992 := by
    have : x * y ≤ 67108864 * 67108864 := Nat.mul_le_mul (by omega) (by omega)
    omega
  obtain ⟨p, p1, p2, p3⟩ := rdiv_back ha hb (by omega) (by omega) hxy
  have hmul := fun w => mul6 (a := a) (b := b) (mode := 0) (w := w) (by have := ha.1; omega) (by have := hb.1; omega)
  have hdiv := fun w => fdiv_div (a := p) (b := b) (mode := 0) (w := w) (by omega) (by have := hb.1; omega)
  rw [p2] at hmul
  rw [p3] at hdiv
  dsimp only at hmul hdiv
  clear hxy p1 p2 p3 ha hb x1 x2 y1 y2
  go_wp2_with fail
  refine (hmul _).mono ?_
  rintro e w3 ⟨rfl, b2⟩
  replace b1 := below_both b1 b2
  clear b2
  go_wp2_with fail
  refine (hdiv _).mono ?_
  rintro e w4 ⟨rfl, b2⟩
  replace b1 := below_both b1 b2
  clear b2
  go_wp2
  all_goals (go_ret; exact ⟨rfl, b1⟩)
end Go.Proofs.Ytgobclmihppopaa
