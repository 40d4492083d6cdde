/- vernierref01.Div: the document's own division, bit by bit. -/
import Derived.Test.YtdcebkhdnhdejaaRefShl
import Derived.Lib.Hide
namespace Go.Proofs.Ytdcebkhdnhdejaa
open Go.RowKit Go.Shelf

theorem lim_digs {B : Nat} (hB : 1 < B) (n j : Nat) : lim (digs B n) j = n / B ^ j % B := by
  induction j generalizing n with
  | zero =>
    by_cases hn : n = 0
    · subst hn; rw [digs_zero]; simp [lim]
    · rw [digs_pos hB hn, lim_cons_zero]; simp
  | succ j ih =>
    by_cases hn : n = 0
    · subst hn; rw [digs_zero]; simp [lim]
    · rw [digs_pos hB hn, lim_cons_succ, ih, Nat.div_div_eq_div_mul, Nat.pow_succ, Nat.mul_comm B]
theorem bit_of (A i : Nat) : lim (digs 65536 A) (i / 16) / 2 ^ (i % 16) % 2 = A / 2 ^ i % 2 := by
  rw [lim_digs (by decide)]
  have h1 : 2 ^ i = 65536 ^ (i / 16) * 2 ^ (i % 16) := by
    rw [show 65536 = 2 ^ 16 from rfl, ← Nat.pow_mul, ← Nat.pow_add, Nat.div_add_mod]
  rw [h1, ← Nat.div_div_eq_div_mul]
  generalize A / 65536 ^ (i / 16) = d
  have hs : i % 16 < 16 := Nat.mod_lt _ (by decide)
  generalize i % 16 = s at *
  have h2 : 65536 = 2 ^ s * (2 * 2 ^ (15 - s)) := by
    rw [← Nat.pow_succ', ← Nat.pow_add, show s + (15 - s).succ = 16 by omega]
  rw [h2, Nat.mod_mul_right_div_self, Nat.mod_mul_right_mod]
theorem div_bit {A B i : Nat} (hB : 0 < B) :
    A / 2 ^ i / B = (if B ≤ 2 * (A / 2 ^ (i + 1) % B) + A / 2 ^ i % 2 then 2 * (A / 2 ^ (i + 1) / B) + 1 else 2 * (A / 2 ^ (i + 1) / B)) ∧
    A / 2 ^ i % B = (if B ≤ 2 * (A / 2 ^ (i + 1) % B) + A / 2 ^ i % 2 then 2 * (A / 2 ^ (i + 1) % B) + A / 2 ^ i % 2 - B else 2 * (A / 2 ^ (i + 1) % B) + A / 2 ^ i % 2) := by
  have e : A / 2 ^ (i + 1) = A / 2 ^ i / 2 := by rw [Nat.div_div_eq_div_mul, ← Nat.pow_succ]
  rw [e]
  generalize A / 2 ^ i = d
  have h1 := Nat.div_add_mod d 2
  have h2 := Nat.div_add_mod (d / 2) B
  have h3 := Nat.mod_lt (d / 2) hB
  have h4 := Nat.mod_lt d (show 0 < 2 by decide)
  generalize d / 2 / B = q at *
  generalize d / 2 % B = r at *
  generalize d % 2 = p at *
  have hd : d = B * (2 * q) + (2 * r + p) := by rw [Nat.mul_left_comm]; omega
  split
  · have hd2 : d = B * (2 * q + 1) + (2 * r + p - B) := by rw [Nat.mul_add]; omega
    have hl : 2 * r + p - B < B := by omega
    refine ⟨?_, ?_⟩
    · rw [hd2, Nat.mul_add_div hB, Nat.div_eq_of_lt hl] <;> try rfl
    · rw [hd2, Nat.mul_add_mod, Nat.mod_eq_of_lt hl]
  · have hl : 2 * r + p < B := by omega
    refine ⟨?_, ?_⟩
    · rw [hd, Nat.mul_add_div hB, Nat.div_eq_of_lt hl] <;> try rfl
    · rw [hd, Nat.mul_add_mod, Nat.mod_eq_of_lt hl]
theorem nbits16 {A k : Nat} (h : A < 65536 ^ k) : nbits A ≤ 16 * k := nbits_le (by rwa [show 65536 = 2 ^ 16 from rfl, ← Nat.pow_mul] at h)
theorem RN.re {w : World} {v : Value} {N k k' : Nat} (h : RN w v N k) (hk : N < 65536 ^ k') : RN w v N k' := ⟨h.1, hk⟩
section
variable {va vb : Value} {M N i j k : Nat} {w : World}
end
end Go.Proofs.Ytdcebkhdnhdejaa

/- vernierref01.Few: the document's own division where the quotient is small. -/
namespace Go.Proofs.Ytdcebkhdnhdejaa
open Go.RowKit Go.Shelf

theorem few_step {A D : Nat} (hD : 0 < D) :
    A / D = (if D ≤ A % (2 * D) then 2 * (A / (2 * D)) + 1 else 2 * (A / (2 * D))) ∧ A % D = (if D ≤ A % (2 * D) then A % (2 * D) - D else A % (2 * D)) := by
  have h2 : 0 < 2 * D := by omega
  have h1 := Nat.div_add_mod A (2 * D)
  have h3 := Nat.mod_lt A h2
  generalize A / (2 * D) = q at *
  generalize A % (2 * D) = r at *
  rw [show 2 * D * q = D * (2 * q) by rw [Nat.mul_comm 2 D, Nat.mul_assoc]] at h1
  split
  · have e : A = D * (2 * q + 1) + (r - D) := by rw [Nat.mul_add]; omega
    have hl : r - D < D := by omega
    refine ⟨?_, ?_⟩
    · rw [e, Nat.mul_add_div hD, Nat.div_eq_of_lt hl] <;> try rfl
    · rw [e, Nat.mul_add_mod, Nat.mod_eq_of_lt hl]
  · have hl : r < D := by omega
    refine ⟨?_, ?_⟩
    · rw [← h1, Nat.mul_add_div hD, Nat.div_eq_of_lt hl] <;> try rfl
    · rw [← h1, Nat.mul_add_mod, Nat.mod_eq_of_lt hl]
theorem few_top {A Y : Nat} (h0 : 0 < Y) (h : A / Y < 1152921504606846976) : A < Y * 2 ^ 60 := by
  have := (Nat.div_lt_iff_lt_mul h0).1 h
  rw [Nat.mul_comm]; simpa using this
end Go.Proofs.Ytdcebkhdnhdejaa
