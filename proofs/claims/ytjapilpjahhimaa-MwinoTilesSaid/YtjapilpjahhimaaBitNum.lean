/- How many bits a number has: plain numbers. -/
import Derived.Test.YtjapilpjahhimaaBits
import Derived.Test.YtjapilpjahhimaaNum
import Derived.Lib.ItoaNum
namespace Go.Proofs.Ytjapilpjahhimaa

def nbits (n : Nat) : Nat := if n = 0 then 0 else n.log2 + 1
theorem nbits_zero : nbits 0 = 0 := rfl
theorem nbits_eq {n k : Nat} (h1 : 2 ^ k ≤ n) (h2 : n < 2 ^ (k + 1)) : nbits n = k + 1 := by
  have hn : n ≠ 0 := by
    have := Nat.two_pow_pos k
    omega
  unfold nbits
  rw [if_neg hn, (Nat.log2_eq_iff hn).2 ⟨h1, h2⟩]
theorem nbits_bounds {n : Nat} (h : n ≠ 0) : 1 ≤ nbits n ∧ 2 ^ (nbits n - 1) ≤ n ∧ n < 2 ^ nbits n := by
  unfold nbits
  rw [if_neg h]
  have := (Nat.log2_eq_iff h (k := n.log2)).1 rfl
  exact ⟨by omega, this.1, this.2⟩
theorem nbits_lt (n : Nat) : n < 2 ^ nbits n := by
  by_cases h : n = 0
  · subst h; simp [nbits]
  · exact (nbits_bounds h).2.2
theorem nbits_le {n k : Nat} (h : n < 2 ^ k) : nbits n ≤ k := by
  by_cases h0 : n = 0
  · subst h0; simp [nbits]
  · obtain ⟨h1, h2, _⟩ := nbits_bounds h0
    have h3 : 2 ^ (nbits n - 1) < 2 ^ k := by omega
    have := (Nat.pow_lt_pow_iff_right (by decide)).1 h3
    omega
theorem nbits_eq_zero {n : Nat} (h : nbits n = 0) : n = 0 := by
  unfold nbits at h
  split at h
  · assumption
  · omega
theorem nbits_half {n : Nat} (h : n ≠ 0) : nbits n = 1 + nbits (n / 2) := by
  by_cases h1 : n / 2 = 0
  · have : n = 1 := by omega
    subst this
    rfl
  · obtain ⟨k1, k2, k3⟩ := nbits_bounds h1
    rw [Nat.add_comm]
    have e : nbits (n / 2) = nbits (n / 2) - 1 + 1 := by omega
    refine nbits_eq ?_ ?_
    · rw [e, Nat.pow_succ]; omega
    · rw [Nat.pow_succ]; omega
theorem bitLen_nbits {x : Nat} (h : x < 18446744073709551616) : Lib.bitLen x = nbits x := by
  by_cases h0 : x = 0
  · subst h0; rfl
  · obtain ⟨h1, h2, h3⟩ := Lib.bitLenAux_bounds 64 x (by simpa using h) h0
    unfold Lib.bitLen
    generalize Lib.bitLenAux 64 x = m at *
    obtain ⟨k, rfl⟩ : ∃ k, m = k + 1 := ⟨m - 1, by omega⟩
    exact (nbits_eq h2 h3).symm
theorem nbits_mul {B p i L r : Nat} (hB : B = 2 ^ p) (hL : L ≠ 0) (hr : r < B ^ i) : nbits (r + B ^ i * L) = p * i + nbits L := by
  obtain ⟨h1, h2, h3⟩ := nbits_bounds hL
  have e : B ^ i = 2 ^ (p * i) := by rw [hB, ← Nat.pow_mul]
  obtain ⟨m, hm⟩ : ∃ m, nbits L = m + 1 := ⟨nbits L - 1, by omega⟩
  rw [hm] at h2 h3 ⊢
  simp only [Nat.add_sub_cancel] at h2
  rw [← Nat.add_assoc]
  refine nbits_eq ?_ ?_
  · rw [Nat.pow_add, ← e]
    have := Nat.mul_le_mul_left (B ^ i) h2
    omega
  · rw [Nat.add_assoc, Nat.pow_add, ← e]
    have := Nat.mul_le_mul_left (B ^ i) (show L + 1 ≤ 2 ^ (m + 1) by omega)
    rw [Nat.mul_add] at this
    omega
/-- the highest digit that is not 0 tells how many bits there are -/
theorem nbits_top {B p : Nat} {xs : List Nat} (hB : B = 2 ^ p) (hlow : Low B xs) {i : Nat} (h : lim xs i ≠ 0) (hz : ∀ j, i < j → lim xs j = 0) : nbits (val B xs) = p * i + nbits (lim xs i) := by
  have hB0 : 0 < B := by rw [hB]; exact Nat.two_pow_pos p
  rw [part_split (k := i + 1) (fun j hj => hz j hj), part]
  exact nbits_mul hB h (part_lt hlow hB0 i)
end Go.Proofs.Ytjapilpjahhimaa

/- nat.Bits: how many bits a natural has. -/
namespace Go.Proofs.Ytjapilpjahhimaa
open Go.RowKit Go.Shelf

attribute [local go_sem] Oper.semAt_some

end Go.Proofs.Ytjapilpjahhimaa
