/- Products and powers of two: plain numbers. -/
import Derived.Test.YtjapilpjahhimaaRndVal
import Derived.Test.YtjapilpjahhimaaRefMul
import Derived.Test.YtjapilpjahhimaaNum
namespace Go.Proofs.Ytjapilpjahhimaa

theorem rmul_comm (a b : Nat) (mode : Int) : rmul a b mode = rmul b a mode := by
  have hn : (neg6 a != neg6 b) = (neg6 b != neg6 a) := by cases neg6 a <;> cases neg6 b <;> rfl
  unfold rmul
  rw [hn, Nat.mul_comm (sig a), Int.add_comm (xpo a)]
  have c1 : (cls a = 3 ∨ cls b = 3) = (cls b = 3 ∨ cls a = 3) := by rw [or_comm]
  have c2 : (cls a = 2 ∧ cls b = 0 ∨ cls a = 0 ∧ cls b = 2) = (cls b = 2 ∧ cls a = 0 ∨ cls b = 0 ∧ cls a = 2) := propext ⟨by omega, by omega⟩
  have c3 : (cls a = 2 ∨ cls b = 2) = (cls b = 2 ∨ cls a = 2) := by rw [or_comm]
  have c4 : (cls a = 0 ∨ cls b = 0) = (cls b = 0 ∨ cls a = 0) := by rw [or_comm]
  simp only [c1, c2, c3, c4]
theorem cls_zero_iff {a : Nat} (hc : cls a ≤ 1) : cls a = 0 ↔ sig a = 0 := by
  have h1 := ff_lt a
  unfold cls at *
  unfold sig
  by_cases h : fe a = 2047
  · rw [if_pos h] at hc; split at hc <;> omega
  · rw [if_neg h]
    by_cases h2 : fe a = 0
    · rw [if_pos h2]
      by_cases h3 : ff a = 0
      · rw [if_pos ⟨h2, h3⟩]; omega
      · rw [if_neg (by omega)]; omega
    · rw [if_neg (by omega), if_neg h2]; omega
theorem rmul_one {a : Nat} {mode : Int} (ha : a < 18446744073709551616) (hc : cls a ≤ 1) : rmul a 4607182418800017408 mode = (a, 0) := by
  have c1 : cls 4607182418800017408 = 1 := by decide
  have e1 : neg6 4607182418800017408 = false := by decide
  have e2 : sig 4607182418800017408 = 4503599627370496 := by decide
  have e3 : xpo 4607182418800017408 = -52 := by decide
  have hn : (neg6 a != false) = neg6 a := by cases neg6 a <;> rfl
  unfold rmul
  rw [c1, e1, e2, e3, hn, if_neg (by omega), if_neg (by omega), if_neg (by omega)]
  by_cases h0 : cls a = 0
  · rw [if_pos (.inl h0)]
    obtain ⟨z1, _⟩ := sig_zero ha ((cls_zero_iff hc).1 h0)
    rw [← z1]
  · rw [if_neg (by omega)]
    exact rnd_is (k := 52) ha (cls_fin.1 hc) (fun h => h0 ((cls_zero_iff hc).2 h)) (.inl ⟨rfl, rfl⟩)
theorem rmul_zero {a : Nat} {mode : Int} (hc : cls a ≤ 1) : ∃ s, rmul a 0 mode = (sgn s, 0) := by
  unfold rmul
  rw [cls_zero, if_neg (by omega), if_neg (by omega), if_neg (by omega), if_pos (.inr rfl)]
  exact ⟨_, rfl⟩
theorem rmul_lt {a b : Nat} {mode : Int} : (rmul a b mode).1 ≤ 18446744073709551615 := by
  have hI : ∀ s, infB s ≤ 18446744073709551615 := fun s => by cases s <;> decide
  have hx := cls_le a
  have hy := cls_le b
  unfold rmul
  split
  · decide
  · split
    · decide
    · split
      · exact hI _
      · split
        · exact sgn_lt _
        · exact rnd_lt _ (Nat.mul_pos (sig_pos (by omega)) (sig_pos (by omega))) (by decide) _ _
/-- times a power of two -/
def clampS (n : Int) : Int := min (max n (-8192)) 8192
def rscale (a : Nat) (n mode : Int) : Nat × Nat :=
  if cls a = 3 then (9221120237041090560, 0) else if cls a ≠ 1 then (a, 0) else rnd (neg6 a) (sig a) 1 (xpo a + clampS n) mode
theorem rscale_lt {a : Nat} {n mode : Int} (ha : a ≤ 18446744073709551615) : (rscale a n mode).1 ≤ 18446744073709551615 := by
  unfold rscale
  split
  · decide
  · split
    · exact ha
    · exact rnd_lt _ (sig_pos (by omega)) (by decide) _ _
theorem rnd_neg {neg : Bool} {num den b : Nat} {exp mode : Int} (hn : 0 < num) (hd : 0 < den) (h : rnd neg num den exp mode = (b, 0)) : neg6 b = neg ∧ b < 18446744073709551616 := by
  have hf := rexp_fits hn hd exp
  unfold rnd at h
  rw [fin_eq hf] at h
  generalize (if rup neg mode (qat num den exp (rexp num den exp)) (decide (rst num den (exp - rexp num den exp) ≠ 0)) (cmpN (2 * rst num den (exp - rexp num den exp)) (lower den (exp - rexp num den exp))) then qat num den exp (rexp num den exp) + 1 else qat num den exp (rexp num den exp)) = q1 at h
  generalize (rexp num den exp + 1074).toNat * 4503599627370496 = t at h
  by_cases hb : 9218868437227405312 ≤ t + q1
  · rw [if_pos hb] at h
    unfold rbig at h
    split at h <;> simp at h
  · rw [if_neg hb] at h
    simp only [Prod.mk.injEq] at h
    obtain ⟨rfl, _⟩ := h
    refine ⟨?_, ?_⟩
    · unfold neg6 sgn
      cases neg
      · exact decide_eq_false (by simp; omega)
      · exact decide_eq_true (by simp; omega)
    · unfold sgn; split <;> omega
/-- what is told without a flag, scaled back, is the number -/
theorem rscale_back {a x : Nat} {n : Int} (ha : a < 18446744073709551616) (hc : cls a = 1) (h1 : -2000 ≤ n) (h2 : n ≤ 2000) (hx : rscale a n 0 = (x, 0)) : rscale x (-n) 0 = (a, 0) := by
  have hcl : clampS n = n := by unfold clampS; omega
  have hcl' : clampS (-n) = -n := by unfold clampS; omega
  have hfa : fe a ≠ 2047 := cls_fin.1 (by omega)
  have hsa := sig_pos hc
  unfold rscale at hx
  rw [if_neg (by omega), if_neg (by omega), hcl] at hx
  obtain ⟨k1, k2, k3, k4⟩ := rnd_exact hsa hx
  obtain ⟨k5, k6⟩ := rnd_neg hsa (by decide) hx
  have hz : sig x ≠ 0 := by
    intro h0
    rw [h0, Nat.zero_mul] at k1
    have : 0 < upper (sig a) (xpo a + n - xpo x) := Nat.mul_pos hsa (pw_pos _)
    omega
  have hcx : cls x = 1 := by
    have hc1 := cls_of_fe k2
    have hne : cls x ≠ 0 := fun hh => hz ((cls_zero_iff hc1).1 hh)
    omega
  unfold rscale
  rw [if_neg (by omega), if_neg (by omega), hcl', k5]
  unfold upper lower pw at k1
  rw [Nat.one_mul] at k1
  by_cases hd : 0 ≤ xpo a + n - xpo x
  · obtain ⟨j, hj⟩ : ∃ j : Nat, xpo a + n - xpo x = j := ⟨(xpo a + n - xpo x).toNat, by omega⟩
    rw [show (-(xpo a + n - xpo x)).toNat = 0 by omega, hj, Int.toNat_natCast, Nat.pow_zero, Nat.mul_one] at k1
    exact rnd_is (k := j) ha hfa (by omega) (.inl ⟨k1.symm, by omega⟩)
  · obtain ⟨j, hj⟩ : ∃ j : Nat, -(xpo a + n - xpo x) = j := ⟨(-(xpo a + n - xpo x)).toNat, by omega⟩
    rw [show (xpo a + n - xpo x).toNat = 0 by omega, hj, Int.toNat_natCast, Nat.pow_zero, Nat.mul_one] at k1
    exact rnd_is (k := j) ha hfa (by omega) (.inr ⟨k1.symm, by omega⟩)
end Go.Proofs.Ytjapilpjahhimaa

/- Rows of numbers: plain lists. No program is named here. -/
namespace Go.Proofs.Ytjapilpjahhimaa

def plusU (a b : Nat) : Nat := (radd a b 0).1
def timesU (a b : Nat) : Nat := (rmul a b 0).1
theorem timesU_lt (a b : Nat) : timesU a b ≤ 18446744073709551615 := rmul_lt
theorem plusU_lt {a b : Nat} (ha : a ≤ 18446744073709551615) (hb : b ≤ 18446744073709551615) : plusU a b ≤ 18446744073709551615 := radd_lt ha hb
/-- is every one of the first k words finite, or zero? -/
def finB (xs : List Nat) : Nat → Bool
  | 0 => true
  | k + 1 => finB xs k && decide (cls (lim xs k) ≤ 1)
theorem finB_iff {xs : List Nat} {k : Nat} : finB xs k = true ↔ ∀ j, j < k → cls (lim xs j) ≤ 1 := by
  induction k with
  | zero => exact ⟨fun _ j hj => by omega, fun _ => rfl⟩
  | succ k ih =>
    show (finB xs k && decide (cls (lim xs k) ≤ 1)) = true ↔ _
    rw [Bool.and_eq_true, ih, decide_eq_true_iff]
    constructor
    · intro h j hj
      by_cases hc : j = k
      · rw [hc]; exact h.2
      · exact h.1 j (by omega)
    · intro h
      exact ⟨fun j hj => h j (by omega), h k (by omega)⟩
theorem finB_not {xs : List Nat} {k j : Nat} (hj : j < k) (h : 2 ≤ cls (lim xs j)) : finB xs k = false := by
  refine Bool.eq_false_iff.2 fun hc => ?_
  have := finB_iff.1 hc j hj
  omega
/-- a row's error: may it be? -/
def chkV (xs : List Nat) : Int := if 64 < xs.length then 11 else if finB xs xs.length then 0 else 12
theorem chkV_ok {xs : List Nat} : chkV xs = 0 ↔ xs.length ≤ 64 ∧ finB xs xs.length = true := by
  unfold chkV
  by_cases h : 64 < xs.length
  · rw [if_pos h]; constructor
    · intro h2; exact absurd h2 (by decide)
    · intro h2; omega
  · rw [if_neg h]
    cases hf : finB xs xs.length
    · simp
    · simp; omega
theorem chkV_ways (xs : List Nat) : chkV xs = 0 ∨ chkV xs = 11 ∨ chkV xs = 12 := by
  unfold chkV
  split
  · exact .inr (.inl rfl)
  · split
    · exact .inl rfl
    · exact .inr (.inr rfl)
/-- two rows' error, behind another one -/
def bothV (xs ys : List Nat) (e : Int) : Int :=
  if chkV xs ≠ 0 then chkV xs else if chkV ys ≠ 0 then chkV ys else if e ≠ 0 then e else if xs.length ≠ ys.length then 11 else 0
theorem bothV_ok {xs ys : List Nat} {e : Int} (h : bothV xs ys e = 0) : chkV xs = 0 ∧ chkV ys = 0 ∧ e = 0 ∧ xs.length = ys.length := by
  unfold bothV at h
  by_cases h1 : chkV xs = 0
  · rw [if_neg (by simp [h1])] at h
    by_cases h2 : chkV ys = 0
    · rw [if_neg (by simp [h2])] at h
      by_cases h3 : e = 0
      · rw [if_neg (by simp [h3])] at h
        by_cases h4 : xs.length = ys.length
        · exact ⟨h1, h2, h3, h4⟩
        · rw [if_pos h4] at h; exact absurd h (by decide)
      · rw [if_pos h3] at h; exact absurd h h3
    · rw [if_pos h2] at h; exact absurd h h2
  · rw [if_pos h1] at h; exact absurd h h1
/-- what is told: an error, or the overflow of what would be told -/
def tellV (want : List Nat) (f : Int) : Int := if f ≠ 0 then f else if finB want want.length then 0 else 13
/-- from +0 on each product added: the first k -/
def dotV (xs ys : List Nat) : Nat → Nat
  | 0 => 0
  | k + 1 => plusU (dotV xs ys k) (timesU (lim xs k) (lim ys k))
theorem dotV_lt (xs ys : List Nat) (k : Nat) : dotV xs ys k ≤ 18446744073709551615 := by
  induction k with
  | zero => exact Nat.zero_le _
  | succ k ih => exact plusU_lt ih (timesU_lt _ _)
theorem dotV_congr {xs ys xs' ys' : List Nat} {k : Nat} (h : ∀ j, j < k → lim xs j = lim xs' j ∧ lim ys j = lim ys' j) : dotV xs ys k = dotV xs' ys' k := by
  induction k with
  | zero => rfl
  | succ k ih =>
    show plusU (dotV xs ys k) (timesU (lim xs k) (lim ys k)) = plusU (dotV xs' ys' k) (timesU (lim xs' k) (lim ys' k))
    rw [ih fun j hj => h j (by omega), (h k (by omega)).1, (h k (by omega)).2]
/-- a row that is told place by place -/
def rowV (n : Nat) (f : Nat → Nat) : List Nat := (List.range n).map f
theorem rowV_length (n : Nat) (f : Nat → Nat) : (rowV n f).length = n := by simp [rowV]
theorem rowV_lim {n k : Nat} (f : Nat → Nat) (h : k < n) : lim (rowV n f) k = f k := by
  unfold rowV lim
  rw [List.getElem?_map, List.getElem?_range h, Option.map_some, Option.getD_some]
theorem rowV_low {n : Nat} {f : Nat → Nat} (h : ∀ k, k < n → f k ≤ 18446744073709551615) : Low 18446744073709551616 (rowV n f) := by
  intro y hy
  unfold rowV at hy
  rw [List.mem_map] at hy
  obtain ⟨k, hk, rfl⟩ := hy
  have := h k (List.mem_range.1 hk)
  omega
theorem rowV_succ (n : Nat) (f : Nat → Nat) : rowV (n + 1) f = rowV n f ++ [f n] := by simp [rowV, List.range_succ]
def axpyV (a : Nat) (xs ys : List Nat) : List Nat := rowV (min xs.length ys.length) fun k => plusU (lim ys k) (timesU a (lim xs k))
def scalV (a : Nat) (xs : List Nat) : List Nat := rowV xs.length fun k => timesU a (lim xs k)
def addV (xs ys : List Nat) : List Nat := rowV (min xs.length ys.length) fun k => plusU (lim xs k) (lim ys k)
/-- the first place with the greatest number of the first k: its place, and that without its sign; NaNs are passed over -/
def larV (xs : List Nat) : Nat → Int × Nat
  | 0 => (-1, 0)
  | k + 1 => if cls (lim xs k) = 3 then larV xs k else if (larV xs k).1 = -1 ∨ (larV xs k).2 < lim xs k % 9223372036854775808 then ((k : Int), lim xs k % 9223372036854775808) else larV xs k
theorem larV_range (xs : List Nat) (k : Nat) : -1 ≤ (larV xs k).1 ∧ (larV xs k).1 < (k : Int) ∧ (larV xs k).2 < 9223372036854775808 := by
  induction k with
  | zero => exact ⟨Int.le_refl _, show (-1 : Int) < ((0 : Nat) : Int) by decide, show 0 < 9223372036854775808 by decide⟩
  | succ k ih =>
    unfold larV
    split
    · exact ⟨ih.1, by have := ih.2.1; omega, ih.2.2⟩
    · split
      · dsimp only
        exact ⟨by omega, by omega, Nat.mod_lt _ (by decide)⟩
      · exact ⟨ih.1, by have := ih.2.1; omega, ih.2.2⟩
end Go.Proofs.Ytjapilpjahhimaa
