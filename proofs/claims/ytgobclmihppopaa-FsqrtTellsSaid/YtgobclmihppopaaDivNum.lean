/- What natdiv.DivMod reckons: plain numbers. -/
import Derived.Test.YtgobclmihppopaaDigit
import Derived.Test.YtgobclmihppopaaBitNum
import Derived.Test.YtgobclmihppopaaRaiseNum
namespace Go.Proofs.Ytgobclmihppopaa

theorem part_of_lt {B : Nat} {s : List Nat} {j : Nat} (h : val B s < B ^ j) : part B s j = val B s := by
  rcases Nat.lt_or_ge s.length j with hl | hl
  · exact part_ge B s j (by omega)
  · have h1 := val_split (B := B) hl
    have h2 : B ^ j * val B (s.drop j) < B ^ j * 1 := by omega
    have h3 := Nat.lt_of_mul_lt_mul_left h2
    have h4 : val B (s.drop j) = 0 := by omega
    rw [h4] at h1
    omega
theorem val_same_high {B : Nat} {s t : List Nat} {j : Nat} (hl : t.length = s.length) (hj : j ≤ s.length) (h : ∀ i, j ≤ i → lim t i = lim s i) : val B t + part B s j = val B s + part B t j := by
  have h1 := val_split (B := B) hj
  have h2 := val_split (B := B) (s := t) (j := j) (by omega)
  have h3 : t.drop j = s.drop j := lim_ext (by simp [hl]) (fun i _ => by rw [lim_drop, lim_drop, h _ (by omega)])
  rw [h3] at h2
  omega
/-- k of the quotient's N digits are reckoned: the rest is R, the quotient Q -/
structure Dm (U D L N k : Nat) (R Q : List Nat) : Prop where
  rl : R.length = N + L
  rlow : Low 18446744073709551616 R
  ql : Q.length = N
  qlow : Low 18446744073709551616 Q
  qz : ∀ i, i + k < N → lim Q i = 0
  eqn : val 18446744073709551616 R + val 18446744073709551616 Q * D = U
  lt : val 18446744073709551616 R < D * 18446744073709551616 ^ (N - k)
theorem dm_start {U D L N : Nat} {R : List Nat} (rl : R.length = N + L) (rlow : Low 18446744073709551616 R) (hR : val 18446744073709551616 R = U) (hU : U < D * 18446744073709551616 ^ N) : Dm U D L N 0 R (List.replicate N 0) := by
  have hz : val 18446744073709551616 (List.replicate N 0) = 0 := val_zeros _ _ (fun x hx => (List.mem_replicate.1 hx).2)
  refine ⟨rl, rlow, by simp, fun x hx => by rw [(List.mem_replicate.1 hx).2]; decide, fun i hi => ?_, by rw [hz]; omega, by rw [hR]; exact hU⟩
  unfold lim
  rw [List.getElem?_replicate]
  split <;> rfl
section
variable {U D L N k : Nat} {R Q : List Nat} (h : Dm U D L N k R Q)
include h
theorem dm_word (hk : k < N) : pv R (N - 1 - k) (L + 1) < D * 18446744073709551616 := by
  obtain ⟨h1, _, _, _, _, _, h7⟩ := h
  have e : N - k = N - 1 - k + 1 := by omega
  rw [e] at h7
  generalize N - 1 - k = j at *
  have h8 := val_split (B := 18446744073709551616) (s := R) (j := j + (L + 1)) (by omega)
  rw [part_drop] at h8
  rw [Nat.pow_succ, ← Nat.mul_assoc, Nat.mul_comm _ 18446744073709551616, ← Nat.mul_assoc, Nat.mul_comm _ (18446744073709551616 ^ j), Nat.mul_comm 18446744073709551616 D] at h7
  have h9 : 18446744073709551616 ^ j * pv R j (L + 1) < 18446744073709551616 ^ j * (D * 18446744073709551616) := by
    show 18446744073709551616 ^ j * part _ _ _ < _
    omega
  exact Nat.lt_of_mul_lt_mul_left h9
theorem dm_step (hD : D < 18446744073709551616 ^ L) (hD0 : 0 < D) (hk : k < N) {t : List Nat} (tl : t.length = R.length) (tlow : Low 18446744073709551616 t) (tout : ∀ i, (i < N - 1 - k ∨ N - 1 - k + L < i) → lim t i = lim R i)
    (tv : pv t (N - 1 - k) (L + 1) = pv R (N - 1 - k) (L + 1) % D) : Dm U D L N (k + 1) t (Q.set (N - 1 - k) (pv R (N - 1 - k) (L + 1) / D)) := by
  have hw := dm_word h hk
  obtain ⟨h1, h2, h3, h4, h5, h6, h7⟩ := h
  have e : N - (k + 1) = N - 1 - k := by omega
  have e2 : N - k = N - 1 - k + 1 := by omega
  have hj : N - 1 - k < N := by omega
  have hq0 : lim Q (N - 1 - k) = 0 := h5 _ (by omega)
  have h5' : ∀ i, i < N - 1 - k → lim Q i = 0 := fun i hi => h5 i (by omega)
  have h5'' : ∀ i, i + (k + 1) < N → i < N - 1 - k := fun i hi => by omega
  rw [e2] at h7
  generalize N - 1 - k = j at *
  have hset := val_set (B := 18446744073709551616) (s := Q) (i := j) (pv R j (L + 1) / D) (by omega)
  rw [hq0] at hset
  have hp1 : part 18446744073709551616 R (j + (L + 1)) = val 18446744073709551616 R := by
    refine part_of_lt (Nat.lt_of_lt_of_le h7 ?_)
    have h8 := Nat.mul_le_mul_right (18446744073709551616 ^ (j + 1)) (Nat.le_of_lt hD)
    rwa [← Nat.pow_add, show L + (j + 1) = j + (L + 1) by omega] at h8
  have hsame := val_same_high (B := 18446744073709551616) tl (j := j + (L + 1)) (by omega) (fun i hi => tout i (.inr (by omega)))
  rw [hp1] at hsame
  have hvt : val 18446744073709551616 t = part 18446744073709551616 R j + 18446744073709551616 ^ j * (pv R j (L + 1) % D) := by
    have h8 := part_drop 18446744073709551616 t j (L + 1)
    have h9 : part 18446744073709551616 t j = part 18446744073709551616 R j := part_congr fun i hi => tout i (.inl hi)
    rw [h9] at h8
    have h10 : part 18446744073709551616 (t.drop j) (L + 1) = pv R j (L + 1) % D := tv
    rw [h10] at h8
    omega
  have hvR : val 18446744073709551616 R = part 18446744073709551616 R j + 18446744073709551616 ^ j * pv R j (L + 1) := by rw [← hp1, part_drop]
  have hdm := Nat.div_add_mod (pv R j (L + 1)) D
  have hlt := Nat.mod_lt (pv R j (L + 1)) hD0
  have hql : pv R j (L + 1) / D < 18446744073709551616 := (Nat.div_lt_iff_lt_mul hD0).2 (by rw [Nat.mul_comm]; exact hw)
  have hpl := part_lt h2 (by decide) j
  generalize pv R j (L + 1) = P at *
  generalize P % D = m at *
  generalize P / D = q at *
  refine ⟨by omega, tlow, by simpa using h3, low_set h4 hql, fun i hi => ?_, ?_, ?_⟩
  · rw [lim_set, if_neg (by have := h5'' i hi; omega)]
    exact h5' i (h5'' i hi)
  · rw [← h6, hvt, hvR, ← hdm]
    have h11 : val 18446744073709551616 (Q.set j q) = val 18446744073709551616 Q + 18446744073709551616 ^ j * q := by omega
    rw [h11, Nat.add_mul, Nat.mul_add, Nat.mul_assoc, Nat.mul_comm q D]
    omega
  · rw [hvt, e, Nat.mul_comm D]
    have h12 : 18446744073709551616 ^ j * (m + 1) ≤ 18446744073709551616 ^ j * D := Nat.mul_le_mul_left _ hlt
    rw [Nat.mul_add, Nat.mul_one] at h12
    omega
end
theorem dm_done {X Y g L N : Nat} {R Q : List Nat} (h : Dm (X * 2 ^ g) (Y * 2 ^ g) L N N R Q) : val 18446744073709551616 Q = X / Y ∧ val 18446744073709551616 R / 2 ^ g = X % Y := by
  obtain ⟨_, _, _, _, _, h6, h7⟩ := h
  rw [Nat.sub_self, Nat.pow_zero, Nat.mul_one] at h7
  have hp : 0 < 2 ^ g := Nat.pow_pos (by decide)
  have hd : val 18446744073709551616 Q = X * 2 ^ g / (Y * 2 ^ g) := by
    rw [← h6, Nat.add_mul_div_right _ _ (by omega), Nat.div_eq_of_lt h7, Nat.zero_add]
  have hm : val 18446744073709551616 R = X * 2 ^ g % (Y * 2 ^ g) := by
    rw [← h6, Nat.add_mul_mod_self_right, Nat.mod_eq_of_lt h7]
  rw [Nat.mul_div_mul_right _ _ hp] at hd
  rw [Nat.mul_mod_mul_right] at hm
  exact ⟨hd, by rw [hm, Nat.mul_div_cancel _ hp]⟩
/-- a divisor, raised till its highest bit is set -/
theorem dv_top {ys s : List Nat} {g : Nat} (hy : Low 18446744073709551616 ys) (hs : Low 18446744073709551616 s) (h0 : 0 < ys.length) (ht : lim ys (ys.length - 1) ≠ 0) (hg : g + nbits (lim ys (ys.length - 1)) = 64) (hsl : ys.length ≤ s.length) (hv : val 18446744073709551616 s = val 18446744073709551616 ys * 2 ^ g) :
    val 18446744073709551616 (s.take ys.length) = val 18446744073709551616 ys * 2 ^ g ∧ 9223372036854775808 ≤ lim (s.take ys.length) (ys.length - 1) ∧ 9223372036854775808 * 18446744073709551616 ^ (ys.length - 1) ≤ val 18446744073709551616 ys * 2 ^ g := by
  obtain ⟨m, hm⟩ : ∃ m, ys.length = m + 1 := ⟨ys.length - 1, by omega⟩
  have hvy : val 18446744073709551616 ys = part 18446744073709551616 ys m + 18446744073709551616 ^ m * lim ys m := by rw [← part_all, hm, part]
  rw [hm] at ht hg hsl ⊢
  simp only [Nat.add_sub_cancel] at *
  obtain ⟨b1, b2, b3⟩ := nbits_bounds ht
  have hpl := part_lt hy (by decide) m
  have e64 : 2 ^ nbits (lim ys m) * 2 ^ g = 18446744073709551616 := by rw [← Nat.pow_add, Nat.add_comm, hg]
  have e63 : 2 ^ (nbits (lim ys m) - 1) * 2 ^ g = 9223372036854775808 := by rw [← Nat.pow_add, show nbits (lim ys m) - 1 + g = 63 by omega]
  generalize 2 ^ (nbits (lim ys m) - 1) = c1 at *
  generalize 2 ^ nbits (lim ys m) = c2 at *
  generalize lim ys m = t at *
  have hup : val 18446744073709551616 s < 18446744073709551616 ^ (m + 1) := by
    rw [hv, hvy, Nat.pow_succ]
    have h5 : 18446744073709551616 ^ m * (c2 * 2 ^ g) = 18446744073709551616 ^ m * 18446744073709551616 := by rw [e64]
    rw [← h5]
    have h1 : 18446744073709551616 ^ m * (t + 1) ≤ 18446744073709551616 ^ m * c2 := Nat.mul_le_mul_left _ b3
    rw [Nat.mul_add, Nat.mul_one] at h1
    rw [← Nat.mul_assoc]
    exact Nat.mul_lt_mul_of_lt_of_le (by omega) (Nat.le_refl _) (Nat.pow_pos (by decide))
  have hlo : 9223372036854775808 * 18446744073709551616 ^ m ≤ val 18446744073709551616 ys * 2 ^ g := by
    rw [← e63, hvy, Nat.mul_right_comm]
    refine Nat.mul_le_mul_right _ ?_
    have h1 : 18446744073709551616 ^ m * c1 ≤ 18446744073709551616 ^ m * t := Nat.mul_le_mul_left _ b2
    rw [Nat.mul_comm c1]
    omega
  have hpt := part_of_lt hup
  refine ⟨by rw [← part_eq_val_take _ _ _ hsl, hpt, hv], ?_, hlo⟩
  rw [lim_take (by omega)]
  rw [← hv, ← hpt, part] at hlo
  have hpl2 := part_lt hs (by decide) m
  have h2 : 18446744073709551616 ^ m * 9223372036854775808 < 18446744073709551616 ^ m * (lim s m + 1) := by
    rw [Nat.mul_add, Nat.mul_one, Nat.mul_comm _ 9223372036854775808]
    omega
  have := Nat.lt_of_mul_lt_mul_left h2
  omega
theorem dv_fits {xs : List Nat} {g L N D : Nat} (hx : Low 18446744073709551616 xs) (hg : g ≤ 63) (hL : 0 < L) (hN : N + L = xs.length + 1) (hD : 9223372036854775808 * 18446744073709551616 ^ (L - 1) ≤ D) : val 18446744073709551616 xs * 2 ^ g < D * 18446744073709551616 ^ N := by
  have h1 := val_lt hx (by decide)
  have h2 : 2 ^ g ≤ 9223372036854775808 := Nat.pow_le_pow_right (n := 2) (by decide) hg
  have e : L - 1 + N = xs.length := by omega
  have h3 : 9223372036854775808 * 18446744073709551616 ^ (L - 1) * 18446744073709551616 ^ N ≤ D * 18446744073709551616 ^ N := Nat.mul_le_mul_right _ hD
  rw [Nat.mul_assoc, ← Nat.pow_add, e] at h3
  refine Nat.lt_of_lt_of_le ?_ h3
  rw [Nat.mul_comm 9223372036854775808]
  exact Nat.mul_lt_mul_of_lt_of_le h1 h2 (by decide)
end Go.Proofs.Ytgobclmihppopaa
