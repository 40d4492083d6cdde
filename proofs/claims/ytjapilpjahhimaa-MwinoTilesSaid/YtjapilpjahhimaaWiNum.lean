/- winograd: a product by halves, plain numbers. -/
import Derived.Test.YtjapilpjahhimaaMaNum
import Derived.Test.YtjapilpjahhimaaVeSpec
import Derived.Test.YtjapilpjahhimaaNeNum
namespace Go.Proofs.Ytjapilpjahhimaa
open Go.RowKit Go.Shelf
theorem nan_bad : 2 ≤ cls 9221120237041090560 := by decide
theorem plus_bad {s p : Nat} (h : 2 ≤ cls s ∨ 2 ≤ cls p) : 2 ≤ cls (plusU s p) := by
  unfold plusU radd
  by_cases h1 : cls s = 3 ∨ cls p = 3
  · simp only [if_pos h1]; exact nan_bad
  · simp only [if_neg h1]
    have l1 := cls_le s
    have l2 := cls_le p
    by_cases h3 : cls s = 2 ∧ cls p = 2 ∧ s ≠ p
    · simp only [if_pos h3]; exact nan_bad
    · simp only [if_neg h3]
      by_cases h2 : cls s = 2
      · simp only [if_pos h2]; omega
      · have h4 : cls p = 2 := by omega
        simp only [if_neg h2, if_pos h4]; omega
theorem minus_bad {s p : Nat} (hp : p < 18446744073709551616) (h : 2 ≤ cls s ∨ 2 ≤ cls p) : 2 ≤ cls (minusU s p) := by
  unfold minusU rsubt
  split
  · exact nan_bad
  · exact plus_bad (p := flip p) (h.imp id fun k => by rw [(flip_told hp).1]; exact k)
theorem times_bad {x y : Nat} (h : 2 ≤ cls x ∨ 2 ≤ cls y) : 2 ≤ cls (timesU x y) := by
  unfold timesU rmul
  by_cases h1 : cls x = 3 ∨ cls y = 3
  · simp only [if_pos h1]; exact nan_bad
  · simp only [if_neg h1]
    have l1 := cls_le x
    have l2 := cls_le y
    by_cases h3 : cls x = 2 ∧ cls y = 0 ∨ cls x = 0 ∧ cls y = 2
    · simp only [if_pos h3]; exact nan_bad
    · have h2 : cls x = 2 ∨ cls y = 2 := by omega
      simp only [if_neg h3, if_pos h2]
      generalize (neg6 x != neg6 y) = z
      cases z <;> decide
theorem dot_bad {xs ys : List Nat} {t K : Nat} (ht : t < K) (h : 2 ≤ cls (lim xs t) ∨ 2 ≤ cls (lim ys t)) : 2 ≤ cls (dotV xs ys K) := by
  induction K with
  | zero => omega
  | succ K ih =>
    unfold dotV
    by_cases e : t = K
    · subst e; exact plus_bad (.inr (times_bad h))
    · exact plus_bad (.inl (ih (by omega)))
/-- a row's and a column's dot -/
def dotN (f g : Nat → Nat → Nat) (K i j : Nat) : Nat := dotV (rowV K (f i)) (rowV K fun t => g t j) K
theorem dotN_bad {f g : Nat → Nat → Nat} {K i j t : Nat} (ht : t < K) (h : 2 ≤ cls (f i t) ∨ 2 ≤ cls (g t j)) : 2 ≤ cls (dotN f g K i j) := dot_bad ht (by rw [rowV_lim _ ht, rowV_lim _ ht]; exact h)
/-- what vec.Dot tells of a row and a column of K numbers -/
theorem dotN_told {f g : Nat → Nat → Nat} {K i j : Nat} (hK : K ≤ 64) : (dotE (rowV K (f i)) (rowV K fun t => g t j) = 0 ∧ dotR (rowV K (f i)) (rowV K fun t => g t j) = dotN f g K i j ∧ cls (dotN f g K i j) ≤ 1) ∨ (dotE (rowV K (f i)) (rowV K fun t => g t j) ≠ 0 ∧ 2 ≤ cls (dotN f g K i j)) := by
  have l1 : (rowV K (f i)).length = K := rowV_length _ _
  have l2 : (rowV K fun t => g t j).length = K := rowV_length _ _
  by_cases h1 : chkV (rowV K (f i)) = 0
  · by_cases h2 : chkV (rowV K fun t => g t j) = 0
    · have hb : bothV (rowV K (f i)) (rowV K fun t => g t j) 0 = 0 := by
        unfold bothV
        rw [if_neg (fun h => h h1), if_neg (fun h => h h2), if_neg (by decide), if_neg (by omega)]
      unfold dotR
      unfold dotE
      rw [hb, if_neg (by decide), l1]
      by_cases h3 : cls (dotV (rowV K (f i)) (rowV K fun t => g t j) K) ≤ 1
      · left
        rw [if_pos h3, if_pos rfl]
        exact ⟨rfl, rfl, h3⟩
      · right
        rw [if_neg h3]
        exact ⟨by decide, by show 2 ≤ cls (dotV _ _ _); omega⟩
    · right
      have hb : bothV (rowV K (f i)) (rowV K fun t => g t j) 0 ≠ 0 := by
        unfold bothV
        rw [if_neg (fun h => h h1), if_pos h2]; exact h2
      refine ⟨by unfold dotE; rw [if_pos hb]; exact hb, ?_⟩
      have hf : finB (rowV K fun t => g t j) K = false := by
        cases k : finB (rowV K fun t => g t j) K
        · rfl
        · exact absurd (chkV_ok.2 ⟨by omega, by rw [l2]; exact k⟩) h2
      refine Classical.byContradiction fun hno => ?_
      have : finB (rowV K fun t => g t j) K = true := finB_iff.2 fun t ht => by
        refine Classical.byContradiction fun hc => hno (dot_bad ht (.inr (by omega)))
      rw [this] at hf; cases hf
  · right
    have hb : bothV (rowV K (f i)) (rowV K fun t => g t j) 0 ≠ 0 := by
      unfold bothV
      rw [if_pos h1]; exact h1
    refine ⟨by unfold dotE; rw [if_pos hb]; exact hb, ?_⟩
    have hf : finB (rowV K (f i)) K = false := by
      cases k : finB (rowV K (f i)) K
      · rfl
      · exact absurd (chkV_ok.2 ⟨by omega, by rw [l1]; exact k⟩) h1
    refine Classical.byContradiction fun hno => ?_
    have : finB (rowV K (f i)) K = true := finB_iff.2 fun t ht => by
      refine Classical.byContradiction fun hc => hno (dot_bad ht (.inl (by omega)))
    rw [this] at hf; cases hf
theorem dotN_lt (f g : Nat → Nat → Nat) (K i j : Nat) : dotN f g K i j ≤ 18446744073709551615 := dotV_lt _ _ _
end Go.Proofs.Ytjapilpjahhimaa

/- winograd: a product by seven parts, plain numbers. -/
namespace Go.Proofs.Ytjapilpjahhimaa
open Go.RowKit Go.Shelf
abbrev Fn := Nat → Nat → Nat
/-- the seven products, of rec -/
def pr (rec : Fn → Fn → Fn) (p q r : Nat) (f g : Fn) : Nat → Fn
  | 1 => rec f g
  | 2 => rec (fun i j => f i (q + j)) (fun i j => g (q + i) j)
  | 3 => rec (fun i j => minusU (f i (q + j)) (minusU (plusU (f (p + i) j) (f (p + i) (q + j))) (f i j))) (fun i j => g (q + i) (r + j))
  | 4 => rec (fun i j => f (p + i) (q + j)) (fun i j => minusU (minusU (g (q + i) (r + j)) (minusU (g i (r + j)) (g i j))) (g (q + i) j))
  | 5 => rec (fun i j => plusU (f (p + i) j) (f (p + i) (q + j))) (fun i j => minusU (g i (r + j)) (g i j))
  | 6 => rec (fun i j => minusU (plusU (f (p + i) j) (f (p + i) (q + j))) (f i j)) (fun i j => minusU (g (q + i) (r + j)) (minusU (g i (r + j)) (g i j)))
  | _ => rec (fun i j => minusU (f i j) (f (p + i) j)) (fun i j => minusU (g (q + i) (r + j)) (g i (r + j)))
/-- the four blocks of the seven -/
def bl (P : Nat → Fn) : Nat → Fn
  | 1 => fun i j => plusU (P 1 i j) (P 2 i j)
  | 2 => fun i j => plusU (plusU (plusU (P 1 i j) (P 6 i j)) (P 5 i j)) (P 3 i j)
  | 3 => fun i j => minusU (plusU (plusU (P 1 i j) (P 6 i j)) (P 7 i j)) (P 4 i j)
  | _ => fun i j => plusU (plusU (plusU (P 1 i j) (P 6 i j)) (P 7 i j)) (P 5 i j)
def qd (p r : Nat) (B : Nat → Fn) : Fn := fun i j => if i < p then (if j < r then B 1 i j else B 2 i (j - r)) else (if j < r then B 3 (i - p) j else B 4 (i - p) (j - r))
def combo (m k n : Nat) (rec : Fn → Fn → Fn) (f g : Fn) : Fn := fun i j =>
  if i < 2 * (m / 2) ∧ j < 2 * (n / 2) then
    (if k % 2 = 1 then plusU (qd (m / 2) (n / 2) (bl (pr rec (m / 2) (k / 2) (n / 2) f g)) i j) (timesU (f i (k - 1)) (g (k - 1) j)) else qd (m / 2) (n / 2) (bl (pr rec (m / 2) (k / 2) (n / 2) f g)) i j)
  else dotN f g k i j
def sevF (cut : Nat) : Nat → Nat → Nat → Nat → Fn → Fn → Fn
  | 0, _, k, _, f, g => dotN f g k
  | d + 1, m, k, n, f, g => if fastN m k n cut = true then combo m k n (sevF cut d (m / 2) (k / 2) (n / 2)) f g else dotN f g k
def sevN (cut m k n : Nat) (f g : Fn) : Fn := sevF cut m m k n f g
theorem sevF_fuel {cut : Nat} : ∀ (m d k n : Nat), m ≤ d → ∀ f g, sevF cut d m k n f g = sevF cut m m k n f g := by
  intro m
  induction m using Nat.strongRecOn with
  | _ m ih =>
    intro d k n hd f g
    cases d with
    | zero => obtain rfl : m = 0 := by omega
              rfl
    | succ d =>
      cases m with
      | zero =>
        have : fastN 0 k n cut = false := by unfold fastN; rw [decide_eq_false (by omega)]; rfl
        unfold sevF
        rw [this, if_neg (by decide)]
      | succ m =>
        unfold sevF
        by_cases hf : fastN (m + 1) k n cut = true
        · rw [if_pos hf, if_pos hf]
          have e : sevF cut d ((m + 1) / 2) (k / 2) (n / 2) = sevF cut m ((m + 1) / 2) (k / 2) (n / 2) := by
            funext f g
            rw [ih ((m + 1) / 2) (by omega) d _ _ (by omega), ih ((m + 1) / 2) (by omega) m _ _ (by omega)]
          rw [e]
        · rw [if_neg hf, if_neg hf]
theorem sevN_slow {cut m k n : Nat} {f g : Fn} (h : fastN m k n cut = false) : sevN cut m k n f g = dotN f g k := by
  unfold sevN
  cases m with
  | zero => rfl
  | succ m => unfold sevF; rw [h, if_neg (by decide)]
theorem sevN_fast {cut m k n : Nat} {f g : Fn} (h : fastN m k n cut = true) : sevN cut m k n f g = combo m k n (sevN cut (m / 2) (k / 2) (n / 2)) f g := by
  unfold sevN
  cases m with
  | zero => have := (fastN_iff.1 h).1; omega
  | succ m =>
    have e : sevF cut m ((m + 1) / 2) (k / 2) (n / 2) = sevF cut ((m + 1) / 2) ((m + 1) / 2) (k / 2) (n / 2) := by
      funext f g
      exact sevF_fuel _ _ _ _ (by omega) _ _
    show (if fastN (m + 1) k n cut = true then combo (m + 1) k n (sevF cut m ((m + 1) / 2) (k / 2) (n / 2)) f g else dotN f g k) = _
    rw [if_pos h, e]
def Lf (f : Fn) : Prop := ∀ i j, f i j < 18446744073709551616
theorem lf_plus {f g : Fn} (hf : Lf f) (hg : Lf g) : Lf fun i j => plusU (f i j) (g i j) := fun i j => by have := plusU_lt (a := f i j) (b := g i j) (by have := hf i j; omega) (by have := hg i j; omega); dsimp only; omega
theorem lf_minus {f g : Fn} (hf : Lf f) (hg : Lf g) : Lf fun i j => minusU (f i j) (g i j) := fun i j => by have := minusU_lt (a := f i j) (b := g i j) (by have := hf i j; omega) (by have := hg i j; omega); dsimp only; omega
theorem lf_pr {rec : Fn → Fn → Fn} {p q r : Nat} {f g : Fn} (hr : ∀ f g, Lf f → Lf g → Lf (rec f g)) (hf : Lf f) (hg : Lf g) (x : Nat) : Lf (pr rec p q r f g x) := by
  have f2 : Lf fun i j => f i (q + j) := fun i j => hf _ _
  have f3 : Lf fun i j => f (p + i) j := fun i j => hf _ _
  have f4 : Lf fun i j => f (p + i) (q + j) := fun i j => hf _ _
  have g2 : Lf fun i j => g i (r + j) := fun i j => hg _ _
  have g3 : Lf fun i j => g (q + i) j := fun i j => hg _ _
  have g4 : Lf fun i j => g (q + i) (r + j) := fun i j => hg _ _
  unfold pr
  split
  · exact hr _ _ hf hg
  · exact hr _ _ f2 g3
  · exact hr _ _ (lf_minus f2 (lf_minus (lf_plus f3 f4) hf)) g4
  · exact hr _ _ f4 (lf_minus (lf_minus g4 (lf_minus g2 hg)) g3)
  · exact hr _ _ (lf_plus f3 f4) (lf_minus g2 hg)
  · exact hr _ _ (lf_minus (lf_plus f3 f4) hf) (lf_minus g4 (lf_minus g2 hg))
  · exact hr _ _ (lf_minus hf f3) (lf_minus g4 g2)
theorem lf_bl {P : Nat → Fn} (h : ∀ x, Lf (P x)) (x : Nat) : Lf (bl P x) := by
  unfold bl
  split
  · exact lf_plus (h 1) (h 2)
  · exact lf_plus (lf_plus (lf_plus (h 1) (h 6)) (h 5)) (h 3)
  · exact lf_minus (lf_plus (lf_plus (h 1) (h 6)) (h 7)) (h 4)
  · exact lf_plus (lf_plus (lf_plus (h 1) (h 6)) (h 7)) (h 5)
theorem lf_dot (f g : Fn) (k : Nat) : Lf (dotN f g k) := fun i j => by have := dotN_lt f g k i j; omega
theorem lf_qd {p r : Nat} {B : Nat → Fn} (h : ∀ x, Lf (B x)) : Lf (qd p r B) := fun i j => by
  unfold qd
  split
  · split
    · exact h _ _ _
    · exact h _ _ _
  · split
    · exact h _ _ _
    · exact h _ _ _
theorem sevN_lf {cut : Nat} : ∀ (m k n : Nat) (f g : Fn), Lf f → Lf g → Lf (sevN cut m k n f g) := by
  intro m
  induction m using Nat.strongRecOn with
  | _ m ih =>
    intro k n f g hf hg
    cases h : fastN m k n cut
    · rw [sevN_slow h]; exact lf_dot _ _ _
    · rw [sevN_fast h]
      have hm := (fastN_iff.1 h).1
      have hb : ∀ x, Lf (bl (pr (sevN cut (m / 2) (k / 2) (n / 2)) (m / 2) (k / 2) (n / 2) f g) x) := lf_bl (lf_pr (fun f g hf hg => ih (m / 2) (by omega) _ _ f g hf hg) hf hg)
      intro i j
      unfold combo
      split
      · split
        · have := plusU_lt (a := qd (m / 2) (n / 2) (bl (pr (sevN cut (m / 2) (k / 2) (n / 2)) (m / 2) (k / 2) (n / 2) f g)) i j) (b := timesU (f i (k - 1)) (g (k - 1) j)) (by have := lf_qd (p := m / 2) (r := n / 2) hb i j; omega) (timesU_lt _ _)
          omega
        · exact lf_qd hb i j
      · exact lf_dot _ _ _ _ _
def Bad (m n : Nat) (F : Fn) : Prop := ∃ i j, i < m ∧ j < n ∧ 2 ≤ cls (F i j)
section
variable {m k n : Nat} {rec : Fn → Fn → Fn} {f g : Fn}
theorem combo_qd {i j : Nat} (hi : i < 2 * (m / 2)) (hj : j < 2 * (n / 2)) (h : 2 ≤ cls (qd (m / 2) (n / 2) (bl (pr rec (m / 2) (k / 2) (n / 2) f g)) i j)) : Bad m n (combo m k n rec f g) := by
  refine ⟨i, j, by omega, by omega, ?_⟩
  unfold combo
  rw [if_pos ⟨hi, hj⟩]
  split
  · exact plus_bad (.inl h)
  · exact h
/-- a block that is not finite -/
theorem combo_bl {i j x : Nat} (hi : i < m / 2) (hj : j < n / 2) (hx : 1 ≤ x ∧ x ≤ 4) (h : 2 ≤ cls (bl (pr rec (m / 2) (k / 2) (n / 2) f g) x i j)) : Bad m n (combo m k n rec f g) := by
  rcases (show x = 1 ∨ x = 2 ∨ x = 3 ∨ x = 4 by omega) with rfl | rfl | rfl | rfl
  · refine combo_qd (i := i) (j := j) (by omega) (by omega) ?_
    unfold qd
    rw [if_pos hi, if_pos hj]; exact h
  · refine combo_qd (i := i) (j := n / 2 + j) (by omega) (by omega) ?_
    unfold qd
    rw [if_pos hi, if_neg (by omega), show n / 2 + j - n / 2 = j by omega]; exact h
  · refine combo_qd (i := m / 2 + i) (j := j) (by omega) (by omega) ?_
    unfold qd
    rw [if_neg (by omega), if_pos hj, show m / 2 + i - m / 2 = i by omega]; exact h
  · refine combo_qd (i := m / 2 + i) (j := n / 2 + j) (by omega) (by omega) ?_
    unfold qd
    rw [if_neg (by omega), if_neg (by omega), show m / 2 + i - m / 2 = i by omega, show n / 2 + j - n / 2 = j by omega]; exact h
/-- one of the seven that is not finite -/
theorem combo_pr {x : Nat} (hl : ∀ x, Lf (pr rec (m / 2) (k / 2) (n / 2) f g x)) (hx : 1 ≤ x ∧ x ≤ 7) (h : Bad (m / 2) (n / 2) (pr rec (m / 2) (k / 2) (n / 2) f g x)) : Bad m n (combo m k n rec f g) := by
  obtain ⟨i, j, hi, hj, hb⟩ := h
  rcases (show x = 1 ∨ x = 2 ∨ x = 3 ∨ x = 4 ∨ x = 5 ∨ x = 6 ∨ x = 7 by omega) with rfl | rfl | rfl | rfl | rfl | rfl | rfl
  · exact combo_bl (x := 1) hi hj (by omega) (plus_bad (.inl hb))
  · exact combo_bl (x := 1) hi hj (by omega) (plus_bad (.inr hb))
  · exact combo_bl (x := 2) hi hj (by omega) (plus_bad (.inr hb))
  · exact combo_bl (x := 3) hi hj (by omega) (minus_bad (hl 4 i j) (.inr hb))
  · exact combo_bl (x := 4) hi hj (by omega) (plus_bad (.inr hb))
  · exact combo_bl (x := 2) hi hj (by omega) (plus_bad (.inl (plus_bad (.inl (plus_bad (.inr hb))))))
  · exact combo_bl (x := 4) hi hj (by omega) (plus_bad (.inl (plus_bad (.inr hb))))
theorem combo_dot {i j : Nat} (hi : i < m) (hj : j < n) (hno : ¬ (i < 2 * (m / 2) ∧ j < 2 * (n / 2))) (h : 2 ≤ cls (dotN f g k i j)) : Bad m n (combo m k n rec f g) :=
  ⟨i, j, hi, hj, by unfold combo; rw [if_neg hno]; exact h⟩
theorem combo_odd {i j : Nat} (hi : i < 2 * (m / 2)) (hj : j < 2 * (n / 2)) (hk : k % 2 = 1) (h : 2 ≤ cls (timesU (f i (k - 1)) (g (k - 1) j))) : Bad m n (combo m k n rec f g) :=
  ⟨i, j, by omega, by omega, by unfold combo; rw [if_pos ⟨hi, hj⟩, if_pos hk]; exact plus_bad (.inr h)⟩
end
theorem sev_bad {cut : Nat} (hcut : 1 ≤ cut) : ∀ (m k n : Nat) (f g : Fn), 0 < m → 0 < k → 0 < n → Lf f → Lf g → (Bad m k f ∨ Bad k n g) → Bad m n (sevN cut m k n f g) := by
  intro m
  induction m using Nat.strongRecOn with
  | _ m ih =>
    intro k n f g hm hk hn hf hg h
    cases hfa : fastN m k n cut
    · rw [sevN_slow hfa]
      rcases h with ⟨i, t, hi, ht, hb⟩ | ⟨t, j, ht, hj, hb⟩
      · exact ⟨i, 0, hi, hn, dotN_bad ht (.inl hb)⟩
      · exact ⟨0, j, hm, hj, dotN_bad ht (.inr hb)⟩
    · rw [sevN_fast hfa]
      obtain ⟨c1, c2, c3⟩ := fastN_iff.1 hfa
      have hl := lf_pr (p := m / 2) (q := k / 2) (r := n / 2) (rec := sevN cut (m / 2) (k / 2) (n / 2)) (fun f g hf hg => sevN_lf _ _ _ f g hf hg) hf hg
      have f2 : Lf fun i j => f i (k / 2 + j) := fun i j => hf _ _
      have f3 : Lf fun i j => f (m / 2 + i) j := fun i j => hf _ _
      have f4 : Lf fun i j => f (m / 2 + i) (k / 2 + j) := fun i j => hf _ _
      have g2 : Lf fun i j => g i (n / 2 + j) := fun i j => hg _ _
      have g3 : Lf fun i j => g (k / 2 + i) j := fun i j => hg _ _
      have g4 : Lf fun i j => g (k / 2 + i) (n / 2 + j) := fun i j => hg _ _
      have hm2 : 0 < m / 2 := by omega
      have hk2 : 0 < k / 2 := by omega
      have hn2 : 0 < n / 2 := by omega
      have go := fun f' g' hf' hg' => ih (m / 2) (by omega) (k / 2) (n / 2) f' g' hm2 hk2 hn2 hf' hg'
      rcases h with ⟨i, t, hi, ht, hb⟩ | ⟨t, j, ht, hj, hb⟩
      · by_cases hi2 : i < 2 * (m / 2)
        · by_cases ht2 : t < 2 * (k / 2)
          · by_cases a : i < m / 2
            · by_cases b : t < k / 2
              · exact combo_pr (x := 1) hl (by omega) (go f g hf hg (.inl ⟨i, t, a, b, hb⟩))
              · refine combo_pr (x := 2) hl (by omega) (go (fun i j => f i (k / 2 + j)) (fun i j => g (k / 2 + i) j) f2 g3 (.inl ⟨i, t - k / 2, a, by omega, ?_⟩))
                dsimp only
                rwa [show k / 2 + (t - k / 2) = t by omega]
            · by_cases b : t < k / 2
              · refine combo_pr (x := 5) hl (by omega) (go (fun i j => plusU (f (m / 2 + i) j) (f (m / 2 + i) (k / 2 + j))) (fun i j => minusU (g i (n / 2 + j)) (g i j)) (lf_plus f3 f4) (lf_minus g2 hg) (.inl ⟨i - m / 2, t, by omega, b, plus_bad (.inl ?_)⟩))
                rwa [show m / 2 + (i - m / 2) = i by omega]
              · refine combo_pr (x := 4) hl (by omega) (go (fun i j => f (m / 2 + i) (k / 2 + j)) (fun i j => minusU (minusU (g (k / 2 + i) (n / 2 + j)) (minusU (g i (n / 2 + j)) (g i j))) (g (k / 2 + i) j)) f4 (lf_minus (lf_minus g4 (lf_minus g2 hg)) g3) (.inl ⟨i - m / 2, t - k / 2, by omega, by omega, ?_⟩))
                dsimp only
                rwa [show m / 2 + (i - m / 2) = i by omega, show k / 2 + (t - k / 2) = t by omega]
          · obtain rfl : t = k - 1 := by omega
            exact combo_odd (i := i) (j := 0) hi2 (by omega) (by omega) (times_bad (.inl hb))
        · exact combo_dot (i := i) (j := 0) hi hn (by omega) (dotN_bad ht (.inl hb))
      · by_cases hj2 : j < 2 * (n / 2)
        · by_cases ht2 : t < 2 * (k / 2)
          · by_cases a : t < k / 2
            · by_cases b : j < n / 2
              · exact combo_pr (x := 1) hl (by omega) (go f g hf hg (.inr ⟨t, j, a, b, hb⟩))
              · refine combo_pr (x := 5) hl (by omega) (go (fun i j => plusU (f (m / 2 + i) j) (f (m / 2 + i) (k / 2 + j))) (fun i j => minusU (g i (n / 2 + j)) (g i j)) (lf_plus f3 f4) (lf_minus g2 hg) (.inr ⟨t, j - n / 2, a, by omega, minus_bad (hg _ _) (.inl ?_)⟩))
                rwa [show n / 2 + (j - n / 2) = j by omega]
            · by_cases b : j < n / 2
              · refine combo_pr (x := 2) hl (by omega) (go (fun i j => f i (k / 2 + j)) (fun i j => g (k / 2 + i) j) f2 g3 (.inr ⟨t - k / 2, j, by omega, b, ?_⟩))
                dsimp only
                rwa [show k / 2 + (t - k / 2) = t by omega]
              · refine combo_pr (x := 3) hl (by omega) (go (fun i j => minusU (f i (k / 2 + j)) (minusU (plusU (f (m / 2 + i) j) (f (m / 2 + i) (k / 2 + j))) (f i j))) (fun i j => g (k / 2 + i) (n / 2 + j)) (lf_minus f2 (lf_minus (lf_plus f3 f4) hf)) g4 (.inr ⟨t - k / 2, j - n / 2, by omega, by omega, ?_⟩))
                dsimp only
                rwa [show k / 2 + (t - k / 2) = t by omega, show n / 2 + (j - n / 2) = j by omega]
          · obtain rfl : t = k - 1 := by omega
            exact combo_odd (i := 0) (j := j) (by omega) hj2 (by omega) (times_bad (.inr hb))
        · exact combo_dot (i := 0) (j := j) hm hj (by omega) (dotN_bad ht (.inr hb))
end Go.Proofs.Ytjapilpjahhimaa
