/- Interleaved bits, tiles' places: plain numbers. No program is named here. -/
import Derived.Test.YtaefalmabphadaaNum
namespace Go.Proofs.Ytaefalmabphadaa

/-- the b-th pair of bits -/
def pr2 (i j b : Nat) : Nat := j / 2 ^ b % 2 + 2 * (i / 2 ^ b % 2)
/-- the first n pairs, each at a place of its own -/
def spr (i j : Nat) : Nat → Nat
  | 0 => 0
  | n + 1 => spr i j n + 4 ^ n * pr2 i j n
theorem pr2_lt (i j b : Nat) : pr2 i j b < 4 := by unfold pr2; omega
theorem spr_lt (i j n : Nat) : spr i j n < 4 ^ n := by
  induction n with
  | zero => exact Nat.one_pos
  | succ n ih =>
    have h := pr2_lt i j n
    have h2 := Nat.mul_le_mul_left (4 ^ n) (show pr2 i j n ≤ 3 by omega)
    show spr i j n + 4 ^ n * pr2 i j n < 4 ^ (n + 1)
    rw [Nat.pow_succ]
    omega
/-- which pairs they are made of -/
theorem spr_same {i j k l n : Nat} (h : spr i j n = spr k l n) : ∀ b, b < n → pr2 i j b = pr2 k l b := by
  induction n with
  | zero => intro b hb; omega
  | succ n ih =>
    have hp : 0 < 4 ^ n := Nat.pow_pos (by decide)
    have h1 : spr i j n + 4 ^ n * pr2 i j n = spr k l n + 4 ^ n * pr2 k l n := h
    have a1 := spr_lt i j n
    have a2 := spr_lt k l n
    have d1 : (spr i j n + 4 ^ n * pr2 i j n) % 4 ^ n = spr i j n := by rw [Nat.add_mul_mod_self_left, Nat.mod_eq_of_lt a1]
    have d2 : (spr k l n + 4 ^ n * pr2 k l n) % 4 ^ n = spr k l n := by rw [Nat.add_mul_mod_self_left, Nat.mod_eq_of_lt a2]
    have e1 : spr i j n = spr k l n := by rw [← d1, ← d2, h1]
    have e2 : pr2 i j n = pr2 k l n := by
      rw [e1] at h1
      exact Nat.eq_of_mul_eq_mul_left hp (Nat.add_left_cancel h1)
    intro b hb
    by_cases hc : b = n
    · rw [hc]; exact e2
    · exact ih e1 b (by omega)
/-- a number below 2^n, by its bits -/
theorem bits_same {n : Nat} : ∀ {i k : Nat}, i < 2 ^ n → k < 2 ^ n → (∀ b, b < n → i / 2 ^ b % 2 = k / 2 ^ b % 2) → i = k := by
  induction n with
  | zero => intro i k hi hk _; rw [Nat.pow_zero] at hi hk; omega
  | succ n ih =>
    intro i k hi hk h
    rw [Nat.pow_succ] at hi hk
    have h0 := h 0 (by omega)
    rw [Nat.pow_zero, Nat.div_one, Nat.div_one] at h0
    have hd : i / 2 = k / 2 := by
      refine ih (by omega) (by omega) fun b hb => ?_
      have := h (b + 1) (by omega)
      rw [Nat.pow_succ, Nat.mul_comm, ← Nat.div_div_eq_div_mul, ← Nat.div_div_eq_div_mul] at this
      exact this
    omega
theorem spr_inj {i j k l n : Nat} (hi : i < 2 ^ n) (hj : j < 2 ^ n) (hk : k < 2 ^ n) (hl : l < 2 ^ n) (h : spr i j n = spr k l n) : i = k ∧ j = l := by
  have hb := spr_same h
  refine ⟨bits_same hi hk fun b hbn => ?_, bits_same hj hl fun b hbn => ?_⟩
  · have := hb b hbn
    unfold pr2 at this
    omega
  · have := hb b hbn
    unfold pr2 at this
    omega
/-- a place's number -/
def plc (i j t : Nat) : Nat := spr (i / t) (j / t) 16 * t * t + i % t * t + j % t
theorem plc_split {s x y t : Nat} (hx : x < t) (hy : y < t) : (s * t * t + x * t + y) % t = y ∧ (s * t * t + x * t + y) / t % t = x ∧ (s * t * t + x * t + y) / t / t = s := by
  have ht : 0 < t := by omega
  have e : s * t * t + x * t + y = (s * t + x) * t + y := by rw [Nat.add_mul]
  have d1 : ((s * t + x) * t + y) / t = s * t + x := by
    rw [Nat.mul_comm, Nat.mul_add_div ht, Nat.div_eq_of_lt hy, Nat.add_zero]
  refine ⟨?_, ?_, ?_⟩
  · rw [e, Nat.mul_comm, Nat.mul_add_mod, Nat.mod_eq_of_lt hy]
  · rw [e, d1, Nat.mul_comm, Nat.mul_add_mod, Nat.mod_eq_of_lt hx]
  · rw [e, d1, Nat.mul_comm, Nat.mul_add_div ht, Nat.div_eq_of_lt hx, Nat.add_zero]
/-- unlike places have unlike numbers -/
theorem plc_inj {i j k l t : Nat} (ht : 0 < t) (hi : i < 65536) (hj : j < 65536) (hk : k < 65536) (hl : l < 65536) (h : plc i j t = plc k l t) : i = k ∧ j = l := by
  unfold plc at h
  obtain ⟨a1, a2, a3⟩ := plc_split (s := spr (i / t) (j / t) 16) (Nat.mod_lt i ht) (Nat.mod_lt j ht)
  obtain ⟨b1, b2, b3⟩ := plc_split (s := spr (k / t) (l / t) 16) (Nat.mod_lt k ht) (Nat.mod_lt l ht)
  rw [h] at a1 a2 a3
  have hlt : ∀ x, x < 65536 → x / t < 2 ^ 16 := fun x hx => Nat.lt_of_le_of_lt (Nat.div_le_self _ _) hx
  obtain ⟨c1, c2⟩ := spr_inj (hlt i hi) (hlt j hj) (hlt k hk) (hlt l hl) (a3.symm.trans b3)
  have e1 := a1.symm.trans b1
  have e2 := a2.symm.trans b2
  refine ⟨?_, ?_⟩
  · rw [← Nat.div_add_mod i t, ← Nat.div_add_mod k t, c1, e2]
  · rw [← Nat.div_add_mod j t, ← Nat.div_add_mod l t, c2, e1]
end Go.Proofs.Ytaefalmabphadaa
