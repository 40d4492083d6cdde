/- Sums of numbers of one exponent and few bits are exact: plain numbers. -/
import Derived.Test.YtdcebkhdnhdejaaFlip
namespace Go.Proofs.Ytdcebkhdnhdejaa

theorem sv_not (q : Bool) (B : Nat) : sv (!q) B = - sv q B := by cases q <;> simp [sv]
theorem sv_abs (S : Int) : sv (decide (S < 0)) S.natAbs = S := by
  by_cases h : S < 0
  · rw [decide_eq_true h]; simp [sv]; omega
  · rw [decide_eq_false h]; simp [sv]; omega
theorem upper_at (N : Nat) {z : Int} (k : Nat) (h : z = k) : upper N z = N * 2 ^ k := by rw [h, upper_nat]
/-- the bits of a number that fits -/
theorem bits_of (neg : Bool) {q : Nat} {e : Int} (hf : Fits q e) (he : e ≤ 971) :
    ∃ s, s < 18446744073709551616 ∧ neg6 s = neg ∧ fe s ≠ 2047 ∧ sig s = q ∧ xpo s = e := by
  obtain ⟨f1, f2, f3⟩ := hf
  obtain ⟨x, hx⟩ : ∃ x : Nat, (e + 1074).toNat = x := ⟨_, rfl⟩
  have hx2 : x ≤ 2045 := by omega
  have hl : (e + 1074).toNat * 4503599627370496 + q < 9218868437227405312 := by rw [hx]; omega
  obtain ⟨h1, h2⟩ := enc_fields neg ⟨f1, f2, f3⟩ hl
  refine ⟨_, ?_, ?_, ?_, h1, h2⟩
  · unfold sgn; split <;> omega
  · unfold neg6 sgn
    cases neg
    · exact decide_eq_false (by simp; omega)
    · exact decide_eq_true (by simp; omega)
  · rw [(sgn_fields neg (by omega)).1]
    omega
theorem cls_of_fe {a : Nat} (h : fe a ≠ 2047) : cls a ≤ 1 := cls_fin.2 h
theorem radd_fin {a b : Nat} {mode : Int} (ha : fe a ≠ 2047) (hb : fe b ≠ 2047) : radd a b mode = rsum (neg6 a) (sig a) (xpo a) (neg6 b) (sig b) (xpo b) mode := by
  have h1 := cls_of_fe ha
  have h2 := cls_of_fe hb
  unfold radd
  rw [if_neg (by omega), if_neg (by omega), if_neg (by omega), if_neg (by omega)]
theorem rsubt_fin {a b : Nat} {mode : Int} (hb64 : b < 18446744073709551616) (ha : fe a ≠ 2047) (hb : fe b ≠ 2047) : rsubt a b mode = rsum (neg6 a) (sig a) (xpo a) (!neg6 b) (sig b) (xpo b) mode := by
  have h2 := cls_of_fe hb
  obtain ⟨_, k1, k2, _⟩ := flip_facts hb64
  obtain ⟨_, k3, k4⟩ := flip_told hb64
  unfold rsubt
  rw [if_neg (by omega), radd_fin ha (by rw [k2]; exact hb), k1, k3, k4]
set_option maxHeartbeats 2000000 in
theorem exact_sum {a b m k : Nat} {E : Int} (ha : a < 18446744073709551616) (hb : b < 18446744073709551616) (fa : fe a ≠ 2047) (fb : fe b ≠ 2047) (xa : xpo a = E) (xb : xpo b = E)
    (sa : sig a = 4503599627370496 + m * 524288) (sb : sig b = 4503599627370496 + k * 524288) (hm : m < 4294967296) (hk : k < 4294967296) (e1 : -975 ≤ E) (e2 : E ≤ 824) :
    ∃ s, s < 18446744073709551616 ∧ radd a b 0 = (s, 0) ∧ rsubt s b 0 = (a, 0) := by
  rw [radd_fin fa fb, xa, xb]
  have hS : ssum (neg6 a) (sig a) E (neg6 b) (sig b) E = sv (neg6 a) (sig a) + sv (neg6 b) (sig b) := by
    unfold ssum
    rw [Int.min_self, Int.sub_self, upper_neg _ (Int.le_refl 0), upper_neg _ (Int.le_refl 0)]
  obtain ⟨S, hSd⟩ : ∃ S, S = sv (neg6 a) (sig a) + sv (neg6 b) (sig b) := ⟨_, rfl⟩
  rw [← hSd] at hS
  have hbig : S.natAbs ≤ 18014398509481983 ∧ S.natAbs % 2 = 0 := by
    rw [hSd, sa, sb]
    cases neg6 a <;> cases neg6 b <;> simp [sv] <;> omega
  by_cases h0 : S = 0
  · have hpq : neg6 a = !neg6 b ∧ sig a = sig b := by
      rw [hSd, sa, sb] at h0
      cases hna : neg6 a <;> cases hnb : neg6 b <;> rw [hna, hnb] at h0 <;> simp [sv] at h0 <;> (try omega) <;> (refine ⟨rfl, ?_⟩; omega)
    refine ⟨0, by decide, ?_, ?_⟩
    · unfold rsum
      rw [hS, if_pos h0, if_neg (by rw [hpq.1]; cases neg6 b <;> decide)]
      rfl
    · rw [rsubt_fin hb (by decide) fb]
      have z1 : neg6 0 = false := by decide
      have z2 : sig 0 = 0 := by decide
      have z3 : xpo 0 = -1074 := by decide
      rw [z1, z2, z3, xb, ← hpq.1, ← hpq.2]
      obtain ⟨d, hd⟩ : ∃ d : Nat, E + 1074 = d := ⟨(E + 1074).toNat, by omega⟩
      refine rsum_is (N := sig a * 2 ^ d) (x := d) ha fa (by omega) ?_ (.inl ⟨rfl, by rw [xa]; omega⟩)
      unfold ssum
      rw [upper_zero, sv_zero, upper_at (sig a) d (by omega), Int.zero_add]
  · have hN : 0 < S.natAbs := by omega
    obtain ⟨n1, n2, n3⟩ := nbits_bounds (Nat.ne_of_gt hN)
    have hn54 : nbits S.natAbs ≤ 54 := nbits_le (by omega : S.natAbs < 2 ^ 54)
    by_cases h53 : nbits S.natAbs ≤ 53
    · obtain ⟨j, hj⟩ : ∃ j, nbits S.natAbs + j = 53 := ⟨53 - nbits S.natAbs, by omega⟩
      have q1 : S.natAbs * 2 ^ j < 9007199254740992 := by
        have : S.natAbs * 2 ^ j < 2 ^ nbits S.natAbs * 2 ^ j := Nat.mul_lt_mul_of_pos_right n3 (Nat.two_pow_pos _)
        rw [← Nat.pow_add, hj] at this
        exact this
      have q2 : 4503599627370496 ≤ S.natAbs * 2 ^ j := by
        have : 2 ^ (nbits S.natAbs - 1) * 2 ^ j ≤ S.natAbs * 2 ^ j := Nat.mul_le_mul_right _ n2
        rw [← Nat.pow_add, show nbits S.natAbs - 1 + j = 52 by omega] at this
        exact this
      obtain ⟨s, s1, s2, s3, s4, s5⟩ := bits_of (decide (S < 0)) (q := S.natAbs * 2 ^ j) (e := E - j) ⟨by omega, q1, .inl q2⟩ (by omega)
      refine ⟨s, s1, ?_, ?_⟩
      · exact rsum_is (N := S.natAbs) (x := j) s1 s3 (by omega) (by rw [hS, s2, sv_abs]) (.inr ⟨s4.symm, by rw [s5, Int.min_self]; omega⟩)
      · rw [rsubt_fin hb s3 fb]
        refine rsum_is (N := sig a * 2 ^ j) (x := j) ha fa (by omega) ?_ (.inl ⟨rfl, by rw [xa, s5, xb]; omega⟩)
        unfold ssum
        have hmin : min (xpo s) (xpo b) = E - j := by rw [s5, xb]; omega
        rw [hmin, s5, xb, Int.sub_self, upper_neg _ (Int.le_refl 0), upper_at (sig b) j (by omega), s2, s4, sv_mul, sv_mul, sv_mul, sv_abs, sv_not, ← Int.add_mul, hSd]
        congr 1
        omega
    · have h54 : nbits S.natAbs = 54 := by omega
      rw [h54] at n2
      have q2 : 9007199254740992 ≤ S.natAbs := n2
      obtain ⟨s, s1, s2, s3, s4, s5⟩ := bits_of (decide (S < 0)) (q := S.natAbs / 2) (e := E + 1) ⟨by omega, by omega, .inl (by omega)⟩ (by omega)
      have hd2 : S.natAbs / 2 * 2 = S.natAbs := by omega
      refine ⟨s, s1, ?_, ?_⟩
      · exact rsum_is (N := S.natAbs) (x := 1) s1 s3 (by omega) (by rw [hS, s2, sv_abs]) (.inl ⟨by rw [s4, Nat.pow_one]; omega, by rw [s5, Int.min_self]; omega⟩)
      · rw [rsubt_fin hb s3 fb]
        refine rsum_is (N := sig a) (x := 0) ha fa (by omega) ?_ (.inl ⟨by rw [Nat.pow_zero, Nat.mul_one], by rw [xa, s5, xb]; omega⟩)
        unfold ssum
        have hmin : min (xpo s) (xpo b) = E := by rw [s5, xb]; omega
        rw [hmin, xb, Int.sub_self, upper_neg _ (Int.le_refl 0), upper_at (sig s) 1 (by rw [s5]; omega), s2, s4, Nat.pow_one, hd2, sv_abs, sv_not, hSd]
        omega
end Go.Proofs.Ytdcebkhdnhdejaa
