/- What products take: plain numbers. No program is named here. -/
import Derived.Test.YtjapilpjahhimaaNum
namespace Go.Proofs.Ytjapilpjahhimaa

/-- are all three sides above the cutoff? -/
def fastN (m k n c : Nat) : Bool := decide (c < m) && (decide (c < k) && decide (c < n))
theorem fastN_iff {m k n c : Nat} : fastN m k n c = true ↔ c < m ∧ c < k ∧ c < n := by simp [fastN]
/-- the words that a product takes -/
def needN (m k n c : Nat) : Nat :=
  if h : fastN m k n c = true then (m / 2) * (k / 2) + (k / 2) * (n / 2) + 2 * (m / 2) * (n / 2) + needN (m / 2) (k / 2) (n / 2) c else 0
termination_by m
decreasing_by
  have := fastN_iff.1 h
  omega
theorem needN_fast {m k n c : Nat} (h : fastN m k n c = true) : needN m k n c = (m / 2) * (k / 2) + (k / 2) * (n / 2) + 2 * (m / 2) * (n / 2) + needN (m / 2) (k / 2) (n / 2) c := by
  conv => lhs; rw [needN]
  rw [dif_pos h]
theorem needN_slow {m k n c : Nat} (h : fastN m k n c = false) : needN m k n c = 0 := by
  rw [needN, dif_neg (by rw [h]; decide)]
/-- how many numbers are multiplied, or added, by a product whose halvings take sums of so many -/
def cntN (S : Nat → Nat → Nat → Nat) (m k n c : Nat) : Nat :=
  if h : fastN m k n c = true then 7 * cntN S (m / 2) (k / 2) (n / 2) c + S (m / 2) (k / 2) (n / 2) + (k % 2 * (2 * (m / 2)) * (2 * (n / 2)) + n % 2 * (2 * (m / 2)) * k + m % 2 * k * n) else m * k * n
termination_by m
decreasing_by
  have := fastN_iff.1 h
  omega
theorem cntN_fast {S : Nat → Nat → Nat → Nat} {m k n c : Nat} (h : fastN m k n c = true) : cntN S m k n c = 7 * cntN S (m / 2) (k / 2) (n / 2) c + S (m / 2) (k / 2) (n / 2) + (k % 2 * (2 * (m / 2)) * (2 * (n / 2)) + n % 2 * (2 * (m / 2)) * k + m % 2 * k * n) := by
  conv => lhs; rw [cntN]
  rw [dif_pos h]
theorem cntN_slow {S : Nat → Nat → Nat → Nat} {m k n c : Nat} (h : fastN m k n c = false) : cntN S m k n c = m * k * n := by
  rw [cntN, dif_neg (by rw [h]; decide)]
theorem halves_mul {a b : Nat} : 4 * ((a / 2) * (b / 2)) ≤ a * b := by
  have h := Nat.mul_le_mul (show 2 * (a / 2) ≤ a by omega) (show 2 * (b / 2) ≤ b by omega)
  calc 4 * ((a / 2) * (b / 2)) = 2 * (a / 2) * (2 * (b / 2)) := by rw [Nat.mul_mul_mul_comm]
    _ ≤ a * b := h
theorem needN_third (m k n c : Nat) : 3 * needN m k n c ≤ m * k + k * n + 2 * (m * n) := by
  induction m using Nat.strongRecOn generalizing k n with
  | _ m ih =>
    cases h : fastN m k n c with
    | false => rw [needN_slow h]; omega
    | true =>
      have h' := fastN_iff.1 h
      rw [needN_fast h]
      have h1 := ih (m / 2) (by omega) (k / 2) (n / 2)
      have a := halves_mul (a := m) (b := k)
      have b := halves_mul (a := k) (b := n)
      have d := halves_mul (a := m) (b := n)
      rw [Nat.mul_assoc 2 (m / 2)]
      omega
theorem odd_sum (m k n : Nat) : 8 * ((m / 2) * (k / 2) * (n / 2)) + (k % 2 * (2 * (m / 2)) * (2 * (n / 2)) + n % 2 * (2 * (m / 2)) * k + m % 2 * k * n) = m * k * n := by
  have hm : m = 2 * (m / 2) + m % 2 := by omega
  have hk : k = 2 * (k / 2) + k % 2 := by omega
  have hn : n = 2 * (n / 2) + n % 2 := by omega
  generalize m / 2 = p at *
  generalize k / 2 = q at *
  generalize n / 2 = r at *
  generalize m % 2 = x at *
  generalize k % 2 = y at *
  generalize n % 2 = z at *
  subst hm hk hn
  simp only [Nat.mul_add, Nat.add_mul, Nat.mul_comm, Nat.mul_left_comm, Nat.mul_assoc, Nat.add_assoc, Nat.add_comm, Nat.add_left_comm]
theorem cntN_le (m k n c : Nat) : cntN (fun _ _ _ => 0) m k n c ≤ m * k * n := by
  induction m using Nat.strongRecOn generalizing k n with
  | _ m ih =>
    cases h : fastN m k n c with
    | false => rw [cntN_slow h]; omega
    | true =>
      have h' := fastN_iff.1 h
      rw [cntN_fast h]
      have h1 := ih (m / 2) (by omega) (k / 2) (n / 2)
      have h2 := odd_sum m k n
      omega
theorem cntN_top {S : Nat → Nat → Nat → Nat} (hS : ∀ p q r, 1 ≤ p → 1 ≤ q → 1 ≤ r → S p q r ≤ 15 * (p * q * r)) (m k n c : Nat) : c = 0 ∨ cntN S m k n c ≤ 15 * (m * k * n) := by
  rcases Nat.eq_zero_or_pos c with h0 | h0
  · exact .inl h0
  refine .inr ?_
  induction m using Nat.strongRecOn generalizing k n with
  | _ m ih =>
    cases h : fastN m k n c with
    | false => rw [cntN_slow h]; omega
    | true =>
      have h' := fastN_iff.1 h
      rw [cntN_fast h]
      have h1 := ih (m / 2) (by omega) (k / 2) (n / 2)
      have h2 := odd_sum m k n
      have h3 := hS (m / 2) (k / 2) (n / 2) (by omega) (by omega) (by omega)
      omega
theorem needN_mono {m k n m' k' n' c : Nat} (hm : m ≤ m') (hk : k ≤ k') (hn : n ≤ n') : needN m k n c ≤ needN m' k' n' c := by
  induction m using Nat.strongRecOn generalizing k n m' k' n' with
  | _ m ih =>
    cases h : fastN m k n c with
    | false => rw [needN_slow h]; exact Nat.zero_le _
    | true =>
      have h' := fastN_iff.1 h
      have h2 : fastN m' k' n' c = true := fastN_iff.2 (by omega)
      rw [needN_fast h, needN_fast h2]
      have a1 : m / 2 ≤ m' / 2 := by omega
      have a2 : k / 2 ≤ k' / 2 := by omega
      have a3 : n / 2 ≤ n' / 2 := by omega
      have b1 := Nat.mul_le_mul a1 a2
      have b2 := Nat.mul_le_mul a2 a3
      have b3 := Nat.mul_le_mul (Nat.mul_le_mul_left 2 a1) a3
      have b4 := ih (m / 2) (by omega) a1 a2 a3
      omega
/-- the words that a triangle takes -/
def triN (n m c : Nat) : Nat :=
  if h : 2 ≤ n then max (max (triN (n / 2) m c) (triN (n - n / 2) m c)) (needN (n - n / 2) (n / 2) m c) else 0
termination_by n
decreasing_by all_goals omega
theorem triN_one {n m c : Nat} (h : n ≤ 1) : triN n m c = 0 := by rw [triN, dif_neg (by omega)]
theorem triN_more {n m c : Nat} (h : 2 ≤ n) : triN n m c = max (max (triN (n / 2) m c) (triN (n - n / 2) m c)) (needN (n - n / 2) (n / 2) m c) := by
  conv => lhs; rw [triN]
  rw [dif_pos h]
/-- the words that two triangles take -/
def luN (m n c : Nat) : Nat :=
  if h : 2 ≤ n then max (max (max (luN m (n / 2) c) (triN (n / 2) (n - n / 2) c)) (needN (m - n / 2) (n / 2) (n - n / 2) c)) (luN (m - n / 2) (n - n / 2) c) else 0
termination_by n
decreasing_by all_goals omega
theorem luN_one {m n c : Nat} (h : n ≤ 1) : luN m n c = 0 := by rw [luN, dif_neg (by omega)]
theorem luN_more {m n c : Nat} (h : 2 ≤ n) : luN m n c = max (max (max (luN m (n / 2) c) (triN (n / 2) (n - n / 2) c)) (needN (m - n / 2) (n / 2) (n - n / 2) c)) (luN (m - n / 2) (n - n / 2) c) := by
  conv => lhs; rw [luN]
  rw [dif_pos h]
/-- the words that a square's triangle takes -/
def cholN (n c : Nat) : Nat :=
  if h : 2 ≤ n then max (max (max (cholN (n / 2) c) (triN (n / 2) (n - n / 2) c)) (needN (n - n / 2) (n / 2) (n - n / 2) c)) (cholN (n - n / 2) c) else 0
termination_by n
decreasing_by all_goals omega
theorem cholN_one {n c : Nat} (h : n ≤ 1) : cholN n c = 0 := by rw [cholN, dif_neg (by omega)]
theorem cholN_more {n c : Nat} (h : 2 ≤ n) : cholN n c = max (max (max (cholN (n / 2) c) (triN (n / 2) (n - n / 2) c)) (needN (n - n / 2) (n / 2) (n - n / 2) c)) (cholN (n - n / 2) c) := by
  conv => lhs; rw [cholN]
  rw [dif_pos h]
theorem triN_le (n m c : Nat) : triN n m c ≤ needN n n m c := by
  induction n using Nat.strongRecOn with
  | _ n ih =>
    by_cases h : 2 ≤ n
    · rw [triN_more h]
      have h1 := Nat.le_trans (ih (n / 2) (by omega)) (needN_mono (c := c) (show n / 2 ≤ n by omega) (show n / 2 ≤ n by omega) (Nat.le_refl m))
      have h2 := Nat.le_trans (ih (n - n / 2) (by omega)) (needN_mono (c := c) (show n - n / 2 ≤ n by omega) (show n - n / 2 ≤ n by omega) (Nat.le_refl m))
      have h3 := needN_mono (c := c) (show n - n / 2 ≤ n by omega) (show n / 2 ≤ n by omega) (Nat.le_refl m)
      omega
    · rw [triN_one (by omega)]; exact Nat.zero_le _
theorem luN_le {m n c : Nat} (hn : n ≤ m) : luN m n c ≤ needN m n n c := by
  induction n using Nat.strongRecOn generalizing m with
  | _ n ih =>
    by_cases h : 2 ≤ n
    · rw [luN_more h]
      have h1 := Nat.le_trans (ih (n / 2) (by omega) (show n / 2 ≤ m by omega)) (needN_mono (c := c) (Nat.le_refl m) (show n / 2 ≤ n by omega) (show n / 2 ≤ n by omega))
      have h2 := Nat.le_trans (triN_le (n / 2) (n - n / 2) c) (needN_mono (c := c) (show n / 2 ≤ m by omega) (show n / 2 ≤ n by omega) (show n - n / 2 ≤ n by omega))
      have h3 := needN_mono (c := c) (show m - n / 2 ≤ m by omega) (show n / 2 ≤ n by omega) (show n - n / 2 ≤ n by omega)
      have h4 := Nat.le_trans (ih (n - n / 2) (by omega) (show n - n / 2 ≤ m - n / 2 by omega)) (needN_mono (c := c) (show m - n / 2 ≤ m by omega) (show n - n / 2 ≤ n by omega) (show n - n / 2 ≤ n by omega))
      omega
    · rw [luN_one (by omega)]; exact Nat.zero_le _
theorem cholN_le (n c : Nat) : cholN n c ≤ needN n n n c := by
  induction n using Nat.strongRecOn with
  | _ n ih =>
    by_cases h : 2 ≤ n
    · rw [cholN_more h]
      have h1 := Nat.le_trans (ih (n / 2) (by omega)) (needN_mono (c := c) (show n / 2 ≤ n by omega) (show n / 2 ≤ n by omega) (show n / 2 ≤ n by omega))
      have h2 := Nat.le_trans (triN_le (n / 2) (n - n / 2) c) (needN_mono (c := c) (show n / 2 ≤ n by omega) (show n / 2 ≤ n by omega) (show n - n / 2 ≤ n by omega))
      have h3 := needN_mono (c := c) (show n - n / 2 ≤ n by omega) (show n / 2 ≤ n by omega) (show n - n / 2 ≤ n by omega)
      have h4 := Nat.le_trans (ih (n - n / 2) (by omega)) (needN_mono (c := c) (show n - n / 2 ≤ n by omega) (show n - n / 2 ≤ n by omega) (show n - n / 2 ≤ n by omega))
      omega
    · rw [cholN_one (by omega)]; exact Nat.zero_le _
end Go.Proofs.Ytjapilpjahhimaa
