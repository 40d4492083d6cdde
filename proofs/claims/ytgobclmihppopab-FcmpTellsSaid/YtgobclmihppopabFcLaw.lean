/- vernierlaw12: alive, rank, order, FcmpTells. -/
import Derived.Test.YtgobclmihppopabFcSpec
import Derived.Test.YtgobclmihppopabRefDiv
import Derived.Test.YtgobclmihppopabRefRound
import Derived.Test.YtgobclmihppopabRefSum
namespace Go.Proofs.Ytgobclmihppopab
open Go.RowKit Go.Shelf
theorem calive (w : World) : Calls Try.prog 25 #[] w fun e W' => e = .returned (.bool true) ∧ Below w.heap.size w W' := by
  have h := fcmp_cmp (a := 0) (b := 9223372036854775808) (w := w) (by omega) (by omega)
  rw [show kcmp 0 9223372036854775808 = (0, true) from by decide] at h
  have h2 := fun w => fcmp_less (a := 9223372036854775809) (b := 0) (w := w) (by omega) (by omega)
  rw [show kless 9223372036854775809 0 = true from by decide] at h2
  go_enter Try.func25, Try.ntmps25
  go_wp2_with fail
  refine Calls.mono h ?_
  rintro e w1 ⟨rfl, b1⟩
  go_wp2_with fail
  refine Calls.mono (h2 _) ?_
  rintro e w2 ⟨rfl, b2⟩
  go_wp2
  go_ret
  exact ⟨rfl, below_both b1 b2⟩
/-- -1 of the infinite one below 0, 1 of that above, 0 of others -/
def rnk (a : Nat) : Int := if mag a = 9218868437227405312 then (if neg6 a then -1 else 1) else 0
theorem rank12 {a : Nat} {w : World} (ha : (a : Int) ≤ 18446744073709551615) :
    Calls Try.prog 62 #[.int .u64 (a : Int)] w fun e W' => e = .returned (.int .i64 (rnk a)) ∧ w = W' := by
  have hc := class6 (W := w) ha
  have hcm := cls_mag a
  unfold rnk
  by_cases h2 : mag a = 9218868437227405312
  · rw [if_pos h2]
    rw [if_neg (by omega), if_pos h2] at hcm
    rw [hcm] at hc
    clear h2 hcm
    unfold neg6
    by_cases hn : (9223372036854775808 : Int) ≤ (a : Int)
    · have d := decide_eq_true hn
      rw [d, if_pos rfl]
      clear hn
      go_enter Try.func62, Try.ntmps62
      go_wp2_with fail
      refine hc.mono ?_
      rintro e w1 ⟨rfl, rfl⟩
      clear hc
      go_wp2
      go_ret
      exact ⟨rfl, rfl⟩
    · have d := decide_eq_false hn
      rw [d, if_neg Bool.false_ne_true]
      clear hn
      go_enter Try.func62, Try.ntmps62
      go_wp2_with fail
      refine hc.mono ?_
      rintro e w1 ⟨rfl, rfl⟩
      clear hc
      go_wp2
      go_ret
      exact ⟨rfl, rfl⟩
  · rw [if_neg h2]
    have hc2 : cls a ≠ 2 := by
      rw [hcm]
      split
      · omega
      · split <;> omega
    clear h2 hcm
    generalize cls a = c at *
    have d : ((c : Int) == 2) = false := beq_eq_false_iff_ne.2 (by omega)
    clear hc2
    go_enter Try.func62, Try.ntmps62
    go_wp2_with fail
    refine hc.mono ?_
    rintro e w1 ⟨rfl, rfl⟩
    clear hc
    go_wp2
    go_ret
    exact ⟨rfl, rfl⟩
theorem rnk_cmp {a b : Nat} (ha : a < 18446744073709551616) (hb : b < 18446744073709551616) (na : isNum a = true) (nb : isNum b = true) (h : mag a = 9218868437227405312 ∨ mag b = 9218868437227405312) :
    (rnk a - rnk b < 0 ↔ key a < key b) ∧ (0 < rnk a - rnk b ↔ key b < key a) ∧ -1 ≤ rnk a ∧ rnk a ≤ 1 ∧ -1 ≤ rnk b ∧ rnk b ≤ 1 := by
  have ka := key_of ha
  have kb := key_of hb
  have ma : mag a ≤ 9218868437227405312 := of_decide_eq_true na
  have mb : mag b ≤ 9218868437227405312 := of_decide_eq_true nb
  unfold rnk
  by_cases h1 : mag a = 9218868437227405312
  · by_cases h2 : mag b = 9218868437227405312
    · rcases ka with ⟨k1, k2, k3⟩ | ⟨k1, k2, k3⟩
      · rcases kb with ⟨j1, j2, j3⟩ | ⟨j1, j2, j3⟩
        · rw [if_pos h1, if_pos h2, k1, j1]; simp only [if_true]; omega
        · rw [if_pos h1, if_pos h2, k1, j1, if_neg Bool.false_ne_true]; simp only [if_true]; omega
      · rcases kb with ⟨j1, j2, j3⟩ | ⟨j1, j2, j3⟩
        · rw [if_pos h1, if_pos h2, k1, j1, if_neg Bool.false_ne_true]; simp only [if_true]; omega
        · rw [if_pos h1, if_pos h2, k1, j1, if_neg Bool.false_ne_true]; omega
    · rcases ka with ⟨k1, k2, k3⟩ | ⟨k1, k2, k3⟩
      · rw [if_pos h1, if_neg h2, k1]; simp only [if_true]; omega
      · rw [if_pos h1, if_neg h2, k1, if_neg Bool.false_ne_true]; omega
  · have h2 : mag b = 9218868437227405312 := h.resolve_left h1
    rcases kb with ⟨j1, j2, j3⟩ | ⟨j1, j2, j3⟩
    · rw [if_neg h1, if_pos h2, j1]; simp only [if_true]; omega
    · rw [if_neg h1, if_pos h2, j1, if_neg Bool.false_ne_true]; omega
theorem sig_mag {a : Nat} (h : mag a < 9218868437227405312) : (sig a = 0 ↔ mag a = 0) := by
  rw [mag_eq]
  unfold sig
  by_cases h0 : fe a = 0
  · rw [if_pos h0]; omega
  · rw [if_neg h0]; omega
set_option maxRecDepth 100000 in
set_option maxHeartbeats 4000000 in
theorem order12 {a b : Nat} {w : World} (ha : (a : Int) ≤ 18446744073709551615) (hb : (b : Int) ≤ 18446744073709551615) (na : isNum a = true) (nb : isNum b = true) :
    Calls Try.prog 26 #[.int .u64 (a : Int), .int .u64 (b : Int)] w fun e W' => ∃ z : Int, e = .returned (.int .i64 z) ∧ (z < 0 ↔ key a < key b) ∧ (0 < z ↔ key b < key a) ∧ -2 ≤ z ∧ z ≤ 2 ∧ Below w.heap.size w W' := by
  have hca := class6 (W := w) ha
  have hcb := fun w => class6 (W := w) hb
  have ma : mag a ≤ 9218868437227405312 := of_decide_eq_true na
  have mb : mag b ≤ 9218868437227405312 := of_decide_eq_true nb
  have hcma := cls_mag a
  have hcmb := cls_mag b
  rw [if_neg (by omega)] at hcma hcmb
  by_cases hi : mag a = 9218868437227405312 ∨ mag b = 9218868437227405312
  · obtain ⟨f1, f2, f3, f4, f5, f6⟩ := rnk_cmp (by omega) (by omega) na nb hi
    have hra := fun w => rank12 (w := w) ha
    have hrb := fun w => rank12 (w := w) hb
    have hcc : cls a = 2 ∨ (((cls a : Int) == 2) = false ∧ cls b = 2) := by
      by_cases h1 : mag a = 9218868437227405312
      · left; rw [hcma, if_pos h1]
      · right
        refine ⟨beq_eq_false_iff_ne.2 ?_, by rw [hcmb, if_pos (hi.resolve_left h1)]⟩
        rw [hcma, if_neg h1]
        split <;> omega
    have F1 := Lib.hid f1
    have F2 := Lib.hid f2
    clear f1 f2 hi ma mb hcma hcmb na nb
    generalize rnk a = ra at *
    generalize rnk b = rb at *
    generalize cls a = x at *
    generalize cls b = y at *
    go_enter Try.func26, Try.ntmps26
    rcases hcc with rfl | ⟨d, rfl⟩
    all_goals
      go_wp2_with fail
      refine hca.mono ?_
      rintro e w1 ⟨rfl, rfl⟩
      go_wp2_with fail
      refine (hcb _).mono ?_
      rintro e w1 ⟨rfl, rfl⟩
      clear hca hcb
      go_wp2_with fail
      refine (hra _).mono ?_
      rintro e w1 ⟨rfl, rfl⟩
      go_wp2_with fail
      refine (hrb _).mono ?_
      rintro e w1 ⟨rfl, rfl⟩
      go_wp2
      go_ret
      exact ⟨_, rfl, F1.out, F2.out, by omega, by omega, Below.refl _ _⟩
  · have ha2 : mag a ≠ 9218868437227405312 := fun h => hi (.inl h)
    have hb2 : mag b ≠ 9218868437227405312 := fun h => hi (.inr h)
    rw [if_neg ha2] at hcma
    rw [if_neg hb2] at hcmb
    have da : ((cls a : Int) == 2) = false := beq_eq_false_iff_ne.2 (by rw [hcma]; split <;> omega)
    have db : ((cls b : Int) == 2) = false := beq_eq_false_iff_ne.2 (by rw [hcmb]; split <;> omega)
    have hsa := fun w => split6 (W := w) ha
    have hsb := fun w => split6 (W := w) hb
    have hcmp := scaled_cmp a b
    have sa := sig_mag (a := a) (by omega)
    have sb := sig_mag (a := b) (by omega)
    have ka := key_of (a := a) (by omega)
    have kb := key_of (a := b) (by omega)
    have x1 : -1074 ≤ xpo a ∧ xpo a ≤ 972 := xpo_range06 a
    have x2 : -1074 ≤ xpo b ∧ xpo b ≤ 972 := xpo_range06 b
    have l1 := sig_lt06 a
    have l2 := sig_lt06 b
    obtain ⟨d1, hd1⟩ : ∃ d : Nat, xpo a - min (xpo a) (xpo b) = d := ⟨(xpo a - min (xpo a) (xpo b)).toNat, by omega⟩
    obtain ⟨d2, hd2⟩ : ∃ d : Nat, xpo b - min (xpo a) (xpo b) = d := ⟨(xpo b - min (xpo a) (xpo b)).toNat, by omega⟩
    rw [hd1, hd2] at hcmp
    simp only [Int.toNat_natCast] at hcmp
    have k1 : d1 ≤ 3000 := by omega
    have k2 : d2 ≤ 3000 := by omega
    obtain ⟨E, hE⟩ : ∃ E, min (xpo a) (xpo b) = E := ⟨_, rfl⟩
    rw [hE] at hd1 hd2
    have x3 : -1074 ≤ E ∧ E ≤ 972 := by omega
    obtain ⟨c, hc, hc3, hcl, hcg⟩ : ∃ c : Int, cmpN (mag a) (mag b) = c ∧ (c = -1 ∨ c = 0 ∨ c = 1) ∧ (c < 0 ↔ mag a < mag b) ∧ (0 < c ↔ mag b < mag a) := by
      rcases Nat.lt_trichotomy (mag a) (mag b) with h | h | h
      · exact ⟨-1, cmpN_lt h, .inl rfl, by omega, by omega⟩
      · exact ⟨0, by rw [h]; exact cmpN_self _, .inr (.inl rfl), by omega, by omega⟩
      · exact ⟨1, cmpN_gt h, .inr (.inr rfl), by omega, by omega⟩
    rw [hc] at hcmp
    clear hi ha2 hb2 hcma hcmb na nb ma mb hc
    generalize cls a = x at *
    generalize cls b = y at *
    generalize neg6 a = s at *
    generalize neg6 b = t at *
    generalize sig a = m at *
    generalize sig b = k at *
    generalize xpo a = p at *
    generalize xpo b = q at *
    -- what is told, by signs
    have hz : (m = 0 ∧ k = 0 ∧ key a = key b) ∨ ((¬ (m = 0 ∧ k = 0)) ∧ ((s = true ∧ t = false ∧ key a < key b) ∨ (s = false ∧ t = true ∧ key b < key a) ∨ (s = true ∧ t = true ∧ (-c < 0 ↔ key a < key b) ∧ (0 < -c ↔ key b < key a)) ∨ (s = false ∧ t = false ∧ (c < 0 ↔ key a < key b) ∧ (0 < c ↔ key b < key a)))) := by
      by_cases h0 : m = 0 ∧ k = 0
      · exact .inl ⟨h0.1, h0.2, by omega⟩
      · refine .inr ⟨h0, ?_⟩
        rcases ka with ⟨k1, k2, k3⟩ | ⟨k1, k2, k3⟩
        · rcases kb with ⟨j1, j2, j3⟩ | ⟨j1, j2, j3⟩
          · exact .inr (.inr (.inl ⟨k1, j1, by omega, by omega⟩))
          · exact .inl ⟨k1, j1, by omega⟩
        · rcases kb with ⟨j1, j2, j3⟩ | ⟨j1, j2, j3⟩
          · exact .inr (.inl ⟨k1, j1, by omega⟩)
          · exact .inr (.inr (.inr ⟨k1, j1, by omega, by omega⟩))
    have HZ := Lib.hid hz
    have HC := Lib.hid hcmp
    have HD1 := Lib.hid hd1
    have HD2 := Lib.hid hd2
    have HE := Lib.hid hE
    clear hz hcmp hd1 hd2 hE sa sb ka kb hcl hcg
    generalize key a = kA at *
    generalize key b = kB at *
    go_enter Try.func26, Try.ntmps26
    go_wp2_with fail
    refine hca.mono ?_
    rintro e w1 ⟨rfl, rfl⟩
    go_wp2_with fail
    refine (hcb _).mono ?_
    rintro e w1 ⟨rfl, rfl⟩
    clear hca hcb
    go_wp2_with fail
    refine (hsa _).mono ?_
    rintro e w1 ⟨rfl, rfl⟩
    go_wp2_with fail
    refine (hsb _).mono ?_
    rintro e w1 ⟨rfl, rfl⟩
    clear hsa hsb
    go_wp2_with fail
    refine (word6 l1).mono ?_
    rintro e w1 ⟨v1, rfl, r1, b1⟩
    go_wp2_with fail
    rw [HE.out, HD1.out]
    refine (rshl_num (m := d1) r1 (by omega) (by omega)).mono ?_
    rintro e w2 ⟨v2, rfl, r2, b2⟩
    replace b1 := below_both b1 b2
    clear b2 r1
    go_wp2_with fail
    refine (word6 l2).mono ?_
    rintro e w3 ⟨v3, rfl, r3, b2⟩
    replace b1 := below_both b1 b2
    replace r2 := r2.behind b2
    clear b2
    go_wp2_with fail
    rw [HD2.out]
    refine (rshl_num (m := d2) r3 (by omega) (by omega)).mono ?_
    rintro e w4 ⟨v4, rfl, r4, b2⟩
    replace b1 := below_both b1 b2
    replace r2 := r2.behind b2
    clear b2 r3
    go_wp2_with fail
    refine (rcmpc r2 r4 (by omega) (by omega) HC.out).mono ?_
    rintro e w5 ⟨rfl, b2⟩
    replace b1 := below_both b1 b2
    clear b2 r2 r4 HC
    rcases HZ.out with ⟨rfl, rfl, e⟩ | ⟨h0, e⟩
    · go_wp2
      go_ret
      exact ⟨_, rfl, by omega, by omega, by omega, by omega, b1⟩
    · have hb0 : (((m : Int) == 0) = false) ∨ (((m : Int) == 0) = true ∧ ((k : Int) == 0) = false) := by
        by_cases hm : m = 0
        · exact .inr ⟨by rw [hm]; rfl, beq_eq_false_iff_ne.2 (by omega)⟩
        · exact .inl (beq_eq_false_iff_ne.2 (by omega))
      have E := Lib.hid e
      clear h0 e HZ
      rcases hb0 with g1 | ⟨g1, g2⟩
      all_goals
        rcases E.out with ⟨rfl, rfl, f⟩ | ⟨rfl, rfl, f⟩ | ⟨rfl, rfl, f1, f2⟩ | ⟨rfl, rfl, f1, f2⟩
        · go_wp2
          go_ret
          exact ⟨_, rfl, by omega, by omega, by omega, by omega, b1⟩
        · go_wp2
          go_ret
          exact ⟨_, rfl, by omega, by omega, by omega, by omega, b1⟩
        · have F1 := Lib.hid f1
          have F2 := Lib.hid f2
          clear f1 f2
          go_wp2
          go_ret
          exact ⟨_, rfl, F1.out, F2.out, by omega, by omega, b1⟩
        · have F1 := Lib.hid f1
          have F2 := Lib.hid f2
          clear f1 f2
          go_wp2
          go_ret
          exact ⟨_, rfl, F1.out, F2.out, by omega, by omega, b1⟩
end Go.Proofs.Ytgobclmihppopab
