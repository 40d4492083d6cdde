/- A number of many words, by its two highest: plain numbers. No program is named here. -/
import Derived.Test.YtgobclmihppopabStk
import Derived.Test.YtgobclmihppopabNum
namespace Go.Proofs.Ytgobclmihppopab

theorem words_pow (k : Nat) : (18446744073709551616 : Nat) ^ k = 2 ^ (64 * k) := by
  rw [Nat.pow_mul]
theorem top_two {xs : List Nat} {M k : Nat} (hl : Low 18446744073709551616 xs) (hM : val 18446744073709551616 xs = M) (h1 : 18446744073709551616 ^ (k + 1) ≤ M) (h2 : M < 18446744073709551616 ^ (k + 2)) :
    k + 2 ≤ xs.length ∧ M = (lim xs (k + 1) * 18446744073709551616 + lim xs k) * 18446744073709551616 ^ k + val 18446744073709551616 (xs.take k) ∧ val 18446744073709551616 (xs.take k) < 18446744073709551616 ^ k ∧ lim xs (k + 1) ≠ 0 := by
  have hlen : k + 2 ≤ xs.length := by
    refine Nat.not_lt.1 fun hc => ?_
    have a1 := val_lt hl (by decide : 0 < 18446744073709551616)
    rw [hM] at a1
    have a2 : 18446744073709551616 ^ xs.length ≤ 18446744073709551616 ^ (k + 1) := Nat.pow_le_pow_right (by decide) (by omega)
    omega
  have hs := val_split (B := 18446744073709551616) hlen
  have hp : 0 < 18446744073709551616 ^ (k + 2) := Nat.pow_pos (by decide)
  have hd : val 18446744073709551616 (xs.drop (k + 2)) = 0 := by
    refine Nat.eq_zero_of_not_pos fun hc => ?_
    have := Nat.le_mul_of_pos_right (18446744073709551616 ^ (k + 2)) hc
    omega
  rw [hd, Nat.mul_zero, Nat.add_zero, hM] at hs
  have e0 : part 18446744073709551616 xs (k + 2) = part 18446744073709551616 xs k + 18446744073709551616 ^ k * lim xs k + 18446744073709551616 ^ (k + 1) * lim xs (k + 1) := rfl
  have e1 := part_eq_val_take 18446744073709551616 xs k (by omega)
  have e2 := part_lt hl (by decide : 0 < 18446744073709551616) k
  have e3 := part_lt hl (by decide : 0 < 18446744073709551616) (k + 1)
  have e4 : part 18446744073709551616 xs (k + 1) = part 18446744073709551616 xs k + 18446744073709551616 ^ k * lim xs k := rfl
  rw [e0] at hs
  rw [← e1]
  refine ⟨hlen, ?_, e2, ?_⟩
  · rw [hs, Nat.pow_succ, Nat.add_mul]
    generalize 18446744073709551616 ^ k = P at *
    generalize part 18446744073709551616 xs k = R at *
    generalize lim xs k = x at *
    generalize lim xs (k + 1) = y at *
    rw [Nat.mul_comm x P, Nat.mul_assoc P, Nat.mul_comm (y * 18446744073709551616) P, Nat.mul_comm 18446744073709551616 y]
    omega
  · intro h0
    rw [h0, Nat.mul_zero, Nat.add_zero, ← e4] at hs
    omega
theorem top_one {xs : List Nat} {M : Nat} (hl : Low 18446744073709551616 xs) (hM : val 18446744073709551616 xs = M) (h0 : M ≠ 0) (h2 : M < 18446744073709551616) : 1 ≤ xs.length ∧ lim xs 0 = M := by
  have hlen : 1 ≤ xs.length := by
    refine Nat.not_lt.1 fun hc => h0 ?_
    obtain rfl : xs = [] := List.eq_nil_of_length_eq_zero (by omega)
    rw [← hM]; rfl
  have hs := val_split (B := 18446744073709551616) hlen
  have hd : val 18446744073709551616 (xs.drop 1) = 0 := by
    refine Nat.eq_zero_of_not_pos fun hc => ?_
    rw [Nat.pow_one] at hs
    have := Nat.le_mul_of_pos_right 18446744073709551616 hc
    omega
  rw [hd, Nat.mul_zero, Nat.add_zero, hM] at hs
  refine ⟨hlen, ?_⟩
  rw [hs]
  show _ = 0 + 18446744073709551616 ^ 0 * lim xs 0
  rw [Nat.pow_zero, Nat.one_mul, Nat.zero_add]
/-- how many words it takes -/
theorem used_two {M k : Nat} (h : (nbits M + 63) / 64 = k + 2) : 18446744073709551616 ^ (k + 1) ≤ M ∧ M < 18446744073709551616 ^ (k + 2) := by
  have h0 : M ≠ 0 := by
    intro h0
    rw [h0, nbits_zero] at h
    omega
  obtain ⟨b1, b2, b3⟩ := nbits_bounds h0
  rw [words_pow, words_pow]
  exact ⟨Nat.le_trans (Nat.pow_le_pow_right (by decide) (by omega)) b2, Nat.lt_of_lt_of_le b3 (Nat.pow_le_pow_right (by decide) (by omega))⟩
theorem used_one {M : Nat} (h : (nbits M + 63) / 64 = 1) : M ≠ 0 ∧ M < 18446744073709551616 := by
  have h0 : M ≠ 0 := by
    intro h0
    rw [h0, nbits_zero] at h
    omega
  obtain ⟨b1, b2, b3⟩ := nbits_bounds h0
  refine ⟨h0, Nat.lt_of_lt_of_le b3 (Nat.le_trans (Nat.pow_le_pow_right (by decide) (show nbits M ≤ 64 by omega)) (by decide))⟩
theorem used_none {M : Nat} (h : (nbits M + 63) / 64 = 0) : M = 0 := by
  refine Nat.eq_zero_of_not_pos fun h0 => ?_
  have := (nbits_bounds (Nat.ne_of_gt h0)).1
  omega
theorem nbits_one : nbits 1 = 1 := rfl
theorem rnd_far1 {neg : Bool} {N : Nat} {E mode : Int} (hN : 0 < N) (h : 1026 ≤ (nbits N : Int) + E) : rnd neg N 1 E mode = rbig neg mode :=
  rnd_far hN (by decide) (by unfold rlen; rw [nbits_one]; omega)
theorem big_65 : 18446744073709551616 = (2 : Nat) ^ 64 := rfl
/-- two words and whether there is more, rounded, as all words are -/
theorem wide_is {neg : Bool} {hi lo k r : Nat} {x mode : Int} (h2 : hi ≠ 0) (hr : r < 2 ^ (64 * k)) (x1 : -16384 ≤ x) (x2 : x ≤ 16384) :
    prnd neg hi lo (x + 64 * (k : Int)) (decide (0 < r)) mode = rnd neg ((hi * 18446744073709551616 + lo) * 2 ^ (64 * k) + r) 1 x mode := by
  obtain ⟨N, hN⟩ : ∃ N, N = hi * 18446744073709551616 + lo := ⟨_, rfl⟩
  have hN1 : 18446744073709551616 ≤ N := by
    have := Nat.le_mul_of_pos_left 18446744073709551616 (Nat.pos_of_ne_zero h2)
    omega
  have hb : 65 ≤ nbits N := nbits_ge (N := N) (k := 64) (by rw [← big_65]; exact hN1)
  have hx := rx_ge N (x + 64 * (k : Int))
  have e1 : rnd neg (N * 2 ^ (64 * k) + r) 1 x mode = if 0 < r then rnd neg (2 * N + 1) 1 (x + 64 * (k : Int) - 1) mode else rnd neg N 1 (x + 64 * (k : Int)) mode := by
    by_cases h0 : 0 < r
    · have h := rnd_stick (neg := neg) (N := N) (j := 64 * k) (r := r) (exp := x + 64 * (k : Int)) (mode := mode) (by omega) h0 hr (by omega)
      rw [if_pos h0, ← h, show x + 64 * (k : Int) - ((64 * k : Nat) : Int) = x by omega]
    · obtain rfl : r = 0 := by omega
      rw [if_neg (by omega), Nat.add_zero, rnd_scale (by omega) (by decide), show x + ((64 * k : Nat) : Int) = x + 64 * (k : Int) by omega]
  have hN54 : 18014398509481984 ≤ hi * 18446744073709551616 + lo := by omega
  by_cases hc : x + 64 * (k : Int) ≤ 16384
  · by_cases h0 : 0 < r
    · rw [decide_eq_true h0, prnd_more hN54 (by omega) hc, ← hN, e1, if_pos h0]
    · rw [decide_eq_false h0, prnd_plain (by omega) (by omega) hc, ← hN, e1, if_neg h0]
  · have hcl : clampE (x + 64 * (k : Int)) = 16384 := by unfold clampE; omega
    have hm := nbits_more N (by omega)
    have f1 : rnd neg (N * 2 ^ (64 * k) + r) 1 x mode = rbig neg mode := by
      rw [e1]
      split
      · exact rnd_far1 (by omega) (by omega)
      · exact rnd_far1 (by omega) (by omega)
    rw [← hN, f1]
    unfold prnd
    rw [← hN, hcl, if_neg (by omega)]
    split
    · exact rnd_far1 (by omega) (by omega)
    · exact rnd_far1 (by omega) (by omega)
end Go.Proofs.Ytgobclmihppopab
