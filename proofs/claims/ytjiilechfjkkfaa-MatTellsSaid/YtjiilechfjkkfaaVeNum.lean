/- Rows of numbers: plain lists. No program is named here. -/
import Derived.Test.YtjiilechfjkkfaaFmNum
import Derived.Test.YtjiilechfjkkfaaFlip
import Derived.Test.YtjiilechfjkkfaaNum
namespace Go.Proofs.Ytjiilechfjkkfaa

def plusU (a b : Nat) : Nat := (radd a b 0).1
def timesU (a b : Nat) : Nat := (rmul a b 0).1
theorem timesU_lt (a b : Nat) : timesU a b ≤ 18446744073709551615 := rmul_lt
theorem plusU_lt {a b : Nat} (ha : a ≤ 18446744073709551615) (hb : b ≤ 18446744073709551615) : plusU a b ≤ 18446744073709551615 := radd_lt ha hb
/-- is every one of the first k words finite, or zero? -/
def finB (xs : List Nat) : Nat → Bool
  | 0 => true
  | k + 1 => finB xs k && decide (cls (lim xs k) ≤ 1)
theorem finB_iff {xs : List Nat} {k : Nat} : finB xs k = true ↔ ∀ j, j < k → cls (lim xs j) ≤ 1 := by
  induction k with
  | zero => exact ⟨fun _ j hj => by omega, fun _ => rfl⟩
  | succ k ih =>
    show (finB xs k && decide (cls (lim xs k) ≤ 1)) = true ↔ _
    rw [Bool.and_eq_true, ih, decide_eq_true_iff]
    constructor
    · intro h j hj
      by_cases hc : j = k
      · rw [hc]; exact h.2
      · exact h.1 j (by omega)
    · intro h
      exact ⟨fun j hj => h j (by omega), h k (by omega)⟩
theorem finB_not {xs : List Nat} {k j : Nat} (hj : j < k) (h : 2 ≤ cls (lim xs j)) : finB xs k = false := by
  refine Bool.eq_false_iff.2 fun hc => ?_
  have := finB_iff.1 hc j hj
  omega
/-- a row's error: may it be? -/
def chkV (xs : List Nat) : Int := if 64 < xs.length then 11 else if finB xs xs.length then 0 else 12
theorem chkV_ok {xs : List Nat} : chkV xs = 0 ↔ xs.length ≤ 64 ∧ finB xs xs.length = true := by
  unfold chkV
  by_cases h : 64 < xs.length
  · rw [if_pos h]; constructor
    · intro h2; exact absurd h2 (by decide)
    · intro h2; omega
  · rw [if_neg h]
    cases hf : finB xs xs.length
    · simp
    · simp; omega
theorem chkV_ways (xs : List Nat) : chkV xs = 0 ∨ chkV xs = 11 ∨ chkV xs = 12 := by
  unfold chkV
  split
  · exact .inr (.inl rfl)
  · split
    · exact .inl rfl
    · exact .inr (.inr rfl)
/-- two rows' error, behind another one -/
def bothV (xs ys : List Nat) (e : Int) : Int :=
  if chkV xs ≠ 0 then chkV xs else if chkV ys ≠ 0 then chkV ys else if e ≠ 0 then e else if xs.length ≠ ys.length then 11 else 0
theorem bothV_ok {xs ys : List Nat} {e : Int} (h : bothV xs ys e = 0) : chkV xs = 0 ∧ chkV ys = 0 ∧ e = 0 ∧ xs.length = ys.length := by
  unfold bothV at h
  by_cases h1 : chkV xs = 0
  · rw [if_neg (by simp [h1])] at h
    by_cases h2 : chkV ys = 0
    · rw [if_neg (by simp [h2])] at h
      by_cases h3 : e = 0
      · rw [if_neg (by simp [h3])] at h
        by_cases h4 : xs.length = ys.length
        · exact ⟨h1, h2, h3, h4⟩
        · rw [if_pos h4] at h; exact absurd h (by decide)
      · rw [if_pos h3] at h; exact absurd h h3
    · rw [if_pos h2] at h; exact absurd h h2
  · rw [if_pos h1] at h; exact absurd h h1
/-- what is told: an error, or the overflow of what would be told -/
def tellV (want : List Nat) (f : Int) : Int := if f ≠ 0 then f else if finB want want.length then 0 else 13
/-- from +0 on each product added: the first k -/
def dotV (xs ys : List Nat) : Nat → Nat
  | 0 => 0
  | k + 1 => plusU (dotV xs ys k) (timesU (lim xs k) (lim ys k))
theorem dotV_lt (xs ys : List Nat) (k : Nat) : dotV xs ys k ≤ 18446744073709551615 := by
  induction k with
  | zero => exact Nat.zero_le _
  | succ k ih => exact plusU_lt ih (timesU_lt _ _)
theorem dotV_congr {xs ys xs' ys' : List Nat} {k : Nat} (h : ∀ j, j < k → lim xs j = lim xs' j ∧ lim ys j = lim ys' j) : dotV xs ys k = dotV xs' ys' k := by
  induction k with
  | zero => rfl
  | succ k ih =>
    show plusU (dotV xs ys k) (timesU (lim xs k) (lim ys k)) = plusU (dotV xs' ys' k) (timesU (lim xs' k) (lim ys' k))
    rw [ih fun j hj => h j (by omega), (h k (by omega)).1, (h k (by omega)).2]
/-- a row that is told place by place -/
def rowV (n : Nat) (f : Nat → Nat) : List Nat := (List.range n).map f
theorem rowV_length (n : Nat) (f : Nat → Nat) : (rowV n f).length = n := by simp [rowV]
theorem rowV_lim {n k : Nat} (f : Nat → Nat) (h : k < n) : lim (rowV n f) k = f k := by
  unfold rowV lim
  rw [List.getElem?_map, List.getElem?_range h, Option.map_some, Option.getD_some]
theorem rowV_low {n : Nat} {f : Nat → Nat} (h : ∀ k, k < n → f k ≤ 18446744073709551615) : Low 18446744073709551616 (rowV n f) := by
  intro y hy
  unfold rowV at hy
  rw [List.mem_map] at hy
  obtain ⟨k, hk, rfl⟩ := hy
  have := h k (List.mem_range.1 hk)
  omega
theorem rowV_succ (n : Nat) (f : Nat → Nat) : rowV (n + 1) f = rowV n f ++ [f n] := by simp [rowV, List.range_succ]
def axpyV (a : Nat) (xs ys : List Nat) : List Nat := rowV (min xs.length ys.length) fun k => plusU (lim ys k) (timesU a (lim xs k))
def scalV (a : Nat) (xs : List Nat) : List Nat := rowV xs.length fun k => timesU a (lim xs k)
def addV (xs ys : List Nat) : List Nat := rowV (min xs.length ys.length) fun k => plusU (lim xs k) (lim ys k)
/-- the first place with the greatest number of the first k: its place, and that without its sign; NaNs are passed over -/
def larV (xs : List Nat) : Nat → Int × Nat
  | 0 => (-1, 0)
  | k + 1 => if cls (lim xs k) = 3 then larV xs k else if (larV xs k).1 = -1 ∨ (larV xs k).2 < lim xs k % 9223372036854775808 then ((k : Int), lim xs k % 9223372036854775808) else larV xs k
theorem larV_range (xs : List Nat) (k : Nat) : -1 ≤ (larV xs k).1 ∧ (larV xs k).1 < (k : Int) ∧ (larV xs k).2 < 9223372036854775808 := by
  induction k with
  | zero => exact ⟨Int.le_refl _, show (-1 : Int) < ((0 : Nat) : Int) by decide, show 0 < 9223372036854775808 by decide⟩
  | succ k ih =>
    unfold larV
    split
    · exact ⟨ih.1, by have := ih.2.1; omega, ih.2.2⟩
    · split
      · dsimp only
        exact ⟨by omega, by omega, Nat.mod_lt _ (by decide)⟩
      · exact ⟨ih.1, by have := ih.2.1; omega, ih.2.2⟩
end Go.Proofs.Ytjiilechfjkkfaa
