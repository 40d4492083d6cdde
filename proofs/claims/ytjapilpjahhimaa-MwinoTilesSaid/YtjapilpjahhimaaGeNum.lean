/- A row by a column of Identity: plain numbers. No program is named here. -/
import Derived.Test.YtjapilpjahhimaaFmNum
import Derived.Test.YtjapilpjahhimaaFfOwn
namespace Go.Proofs.Ytjapilpjahhimaa

theorem zero_of {a : Nat} (ha : a < 18446744073709551616) (hc : cls a = 0) : a = sgn (neg6 a) := (sig_zero ha ((cls_zero_iff (by omega)).1 hc)).1
theorem sgn_kind (s : Bool) : cls (sgn s) = 0 ∧ sig (sgn s) = 0 ∧ neg6 (sgn s) = s ∧ xpo (sgn s) = -1074 ∧ sgn s ≤ 18446744073709551615 := by cases s <;> decide
theorem plus_sgn {a : Nat} (ha : a < 18446744073709551616) (hc : cls a = 1) (t : Bool) : plusU a (sgn t) = a ∧ plusU (sgn t) a = a := by
  obtain ⟨b1, b2, b3, b4, _⟩ := sgn_kind t
  have h : radd a (sgn t) 0 = (a, 0) := by
    unfold radd
    rw [hc, b1, if_neg (by omega), if_neg (by omega), if_neg (by omega), if_neg (by omega), b2, b3, b4, rsum_left (sig_pos hc)]
    have := sig_pos hc
    exact rnd_split ha (cls_fin.1 (by omega)) (by omega)
  unfold plusU
  rw [radd_comm (sgn t) a, h]
  exact ⟨rfl, rfl⟩
theorem plus_sgns (s t : Bool) : ∃ r, plusU (sgn s) (sgn t) = sgn r := by
  obtain ⟨a1, a2, a3, a4, _⟩ := sgn_kind s
  obtain ⟨b1, b2, b3, b4, _⟩ := sgn_kind t
  unfold plusU radd
  rw [a1, b1, if_neg (by omega), if_neg (by omega), if_neg (by omega), if_neg (by omega), a2, a3, b2, b3, rsum_zeros]
  by_cases h : s = t
  · rw [if_pos h]; exact ⟨s, rfl⟩
  · rw [if_neg h]; exact ⟨decide ((0 : Int) = 4), rfl⟩
theorem times_zero {a : Nat} (hc : cls a ≤ 1) : ∃ s, timesU a 0 = sgn s := by
  obtain ⟨s, h⟩ := rmul_zero (a := a) (mode := 0) hc
  exact ⟨s, by unfold timesU; rw [h]⟩
theorem times_one {a : Nat} (ha : a < 18446744073709551616) (hc : cls a ≤ 1) : timesU a 4607182418800017408 = a := by
  unfold timesU
  rw [rmul_one ha hc]
/-- the same, or both zeros -/
def Alk (a b : Nat) : Prop := a = b ∨ (∃ s, a = sgn s) ∧ ∃ t, b = sgn t
theorem alk_plus {d a : Nat} {t : Bool} (ha : a < 18446744073709551616) (hc : cls a ≤ 1) (h : Alk d a) : Alk (plusU d (sgn t)) a := by
  have h2 : cls a = 0 ∨ cls a = 1 := by omega
  rcases h with rfl | ⟨⟨s, rfl⟩, u, rfl⟩
  · rcases h2 with h2 | h2
    · have e := zero_of ha h2
      obtain ⟨r, hr⟩ := plus_sgns (neg6 d) t
      rw [← e] at hr
      exact .inr ⟨⟨r, hr⟩, _, e⟩
    · exact .inl (plus_sgn ha h2 t).1
  · obtain ⟨r, hr⟩ := plus_sgns s t
    exact .inr ⟨⟨r, hr⟩, u, rfl⟩
theorem alk_first {s : Bool} {a : Nat} (ha : a < 18446744073709551616) (hc : cls a ≤ 1) : Alk (plusU (sgn s) a) a := by
  have h2 : cls a = 0 ∨ cls a = 1 := by omega
  rcases h2 with h2 | h2
  · have e := zero_of ha h2
    obtain ⟨r, hr⟩ := plus_sgns s (neg6 a)
    rw [← e] at hr
    exact .inr ⟨⟨r, hr⟩, _, e⟩
  · exact .inl (plus_sgn ha h2 s).2
/-- a row by a column that has 1 at one place, else +0 -/
theorem dot_unit {xs ys : List Nat} {n j : Nat} (hx : ∀ k, k < n → lim xs k < 18446744073709551616 ∧ cls (lim xs k) ≤ 1) (hj : lim ys j = 4607182418800017408) (hy : ∀ k, k < n → k ≠ j → lim ys k = 0) :
    ∀ k, k ≤ n → (k ≤ j → ∃ s, dotV xs ys k = sgn s) ∧ (j < k → Alk (dotV xs ys k) (lim xs j)) := by
  intro k
  induction k with
  | zero => exact fun _ => ⟨fun _ => ⟨false, rfl⟩, fun h => by omega⟩
  | succ k ih =>
    intro hk
    obtain ⟨i1, i2⟩ := ih (by omega)
    obtain ⟨x1, x2⟩ := hx k (by omega)
    have e : dotV xs ys (k + 1) = plusU (dotV xs ys k) (timesU (lim xs k) (lim ys k)) := rfl
    by_cases hc : k = j
    · subst hc
      refine ⟨fun h => by omega, fun _ => ?_⟩
      obtain ⟨s, hs⟩ := i1 (Nat.le_refl _)
      rw [e, hs, hj, times_one x1 x2]
      exact alk_first x1 x2
    · obtain ⟨t, ht⟩ := times_zero x2
      rw [e, hy k (by omega) hc, ht]
      refine ⟨fun h => ?_, fun h => ?_⟩
      · obtain ⟨s, hs⟩ := i1 (by omega)
        rw [hs]
        exact plus_sgns s t
      · obtain ⟨y1, y2⟩ := hx j (by omega)
        exact alk_plus y1 y2 (i2 (by omega))
/-- row by column -/
def prodM (R K C : Nat) (xs ys : List Nat) : List Nat := rowV (R * C) fun k => dotV (rowV K fun l => lim xs (k / C * K + l)) (rowV K fun l => lim ys (l * C + k % C)) K
theorem prodM_length (R K C : Nat) (xs ys : List Nat) : (prodM R K C xs ys).length = R * C := rowV_length _ _
/-- Identity, row by row -/
def idM (n : Nat) : List Nat := rowV (n * n) fun k => if k / n = k % n then 4607182418800017408 else 0
theorem idM_lim {n i j : Nat} (hi : i < n) (hj : j < n) : lim (idM n) (i * n + j) = if i = j then 4607182418800017408 else 0 := by
  have hlt : i * n + j < n * n := by
    have := Nat.mul_le_mul_right n (show i + 1 ≤ n from hi)
    rw [Nat.add_mul, Nat.one_mul] at this
    omega
  have e1 : (i * n + j) / n = i := by rw [Nat.mul_comm, Nat.mul_add_div (by omega), Nat.div_eq_of_lt hj, Nat.add_zero]
  have e2 : (i * n + j) % n = j := by rw [Nat.mul_comm, Nat.mul_add_mod, Nat.mod_eq_of_lt hj]
  unfold idM
  rw [rowV_lim _ hlt, e1, e2]
/-- by Identity a matrix is itself, but that a 0's sign may be another one -/
theorem prod_id {R C : Nat} {xs : List Nat} (hl : xs.length = R * C) (hx : ∀ k, k < R * C → lim xs k < 18446744073709551616 ∧ cls (lim xs k) ≤ 1) {k : Nat} (hk : k < R * C) : Alk (lim (prodM R C C xs (idM C)) k) (lim xs k) := by
  have hC : 0 < C := by
    rcases Nat.eq_zero_or_pos C with h | h
    · subst h; simp at hk
    · exact h
  have h1 : k / C < R := by rwa [Nat.div_lt_iff_lt_mul hC]
  have h2 : k % C < C := Nat.mod_lt _ hC
  unfold prodM
  rw [rowV_lim _ hk]
  have hx2 : ∀ l, l < C → k / C * C + l < R * C := by
    intro l hl2
    have := Nat.mul_le_mul_right C (show k / C + 1 ≤ R from h1)
    rw [Nat.add_mul, Nat.one_mul] at this
    omega
  have hu := dot_unit (xs := rowV C fun l => lim xs (k / C * C + l)) (ys := rowV C fun l => lim (idM C) (l * C + k % C)) (n := C) (j := k % C)
    (fun l hl2 => by rw [rowV_lim _ hl2]; exact hx _ (hx2 l hl2))
    (by rw [rowV_lim _ h2, idM_lim h2 h2, if_pos rfl])
    (fun l hl2 hne => by rw [rowV_lim _ hl2, idM_lim hl2 h2, if_neg hne]) C (Nat.le_refl _)
  have h3 := hu.2 h2
  rw [rowV_lim _ h2, show k / C * C + k % C = k by rw [Nat.mul_comm]; exact Nat.div_add_mod k C] at h3
  exact h3
end Go.Proofs.Ytjapilpjahhimaa
