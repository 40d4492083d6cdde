/- Which lists of ints are permutations: plain lists. No program is named here. -/
import Derived.Test.YtgppbimbampenaaOu
import Derived.Test.YtgppbimbampenaaPeNum
namespace Go.Proofs.Ytgppbimbampenaa

/-- the first k numbers are from 0 to n - 1, none twice -/
def good (zs : List Int) (k : Nat) : Prop := ∀ i, i < k → (0 ≤ zat zs i ∧ zat zs i < zs.length) ∧ ∀ j, j < i → zat zs j ≠ zat zs i
instance (zs : List Int) (k : Nat) : Decidable (good zs k) := by unfold good; infer_instance
def permB (zs : List Int) : Bool := decide (zs.length ≤ 64 ∧ good zs zs.length)
theorem permB_iff {zs : List Int} : permB zs = true ↔ zs.length ≤ 64 ∧ good zs zs.length := by simp [permB]
/-- is r among the first k numbers? -/
def met (zs : List Int) (k : Nat) (r : Nat) : Bool := (List.range k).any fun i => zat zs i == (r : Int)
theorem met_zero (zs : List Int) (r : Nat) : met zs 0 r = false := rfl
theorem met_succ (zs : List Int) (k r : Nat) : met zs (k + 1) r = (met zs k r || (zat zs k == (r : Int))) := by
  unfold met
  rw [List.range_succ, List.any_append]
  simp
theorem met_iff {zs : List Int} {k r : Nat} : met zs k r = true ↔ ∃ i, i < k ∧ zat zs i = r := by
  unfold met
  simp [List.any_eq_true]
theorem good_zero (zs : List Int) : good zs 0 := fun i h => absurd h (Nat.not_lt_zero i)
theorem good_succ {zs : List Int} {k : Nat} : good zs (k + 1) ↔ good zs k ∧ (0 ≤ zat zs k ∧ zat zs k < zs.length) ∧ ∀ j, j < k → zat zs j ≠ zat zs k := by
  constructor
  · intro h
    exact ⟨fun i hi => h i (by omega), h k (by omega)⟩
  · rintro ⟨h1, h2⟩ i hi
    by_cases e : i = k
    · subst e; exact h2
    · exact h1 i (by omega)
theorem good.mono {zs : List Int} {k m : Nat} (h : good zs k) (hm : m ≤ k) : good zs m := fun i hi => h i (by omega)
/-- the loop's step -/
theorem good_step {zs : List Int} {k r : Nat} (h : good zs k) (hr : zat zs k = (r : Int)) (hn : r < zs.length) (hm : met zs k r = false) : good zs (k + 1) := by
  rw [good_succ]
  refine ⟨h, by omega, fun j hj e => ?_⟩
  have : met zs k r = true := met_iff.2 ⟨j, hj, by rw [e, hr]⟩
  rw [hm] at this; cases this
theorem good_met {zs : List Int} {k r : Nat} (hr : zat zs k = (r : Int)) (hm : met zs k r = true) : ¬ good zs (k + 1) := by
  intro h
  obtain ⟨i, hi, e⟩ := met_iff.1 hm
  exact (good_succ.1 h).2.2 i hi (by rw [e, hr])
theorem good_out {zs : List Int} {k : Nat} (h : ¬ (0 ≤ zat zs k ∧ zat zs k < zs.length)) : ¬ good zs (k + 1) := fun g => h (good_succ.1 g).2.1
theorem permB_not {zs : List Int} {k : Nat} (hk : k ≤ zs.length) (h : ¬ good zs k) : permB zs = false := by
  rw [Bool.eq_false_iff]
  intro hp
  exact h ((permB_iff.1 hp).2.mono hk)
/-- how often r is among the first k numbers -/
def cntZ (zs : List Int) (r : Int) : Nat → Nat
  | 0 => 0
  | k + 1 => cntZ zs r k + (if zat zs k = r then 1 else 0)
theorem cntZ_le (zs : List Int) (r : Int) (k : Nat) : cntZ zs r k ≤ k := by
  induction k with
  | zero => exact Nat.le_refl 0
  | succ k ih => show cntZ zs r k + _ ≤ _; split <;> omega
/-- how many of the first k numbers are from 0 to m - 1 -/
def inZ (zs : List Int) (m : Nat) : Nat → Nat
  | 0 => 0
  | k + 1 => inZ zs m k + (if 0 ≤ zat zs k ∧ zat zs k < (m : Int) then 1 else 0)
theorem inZ_zero (zs : List Int) (k : Nat) : inZ zs 0 k = 0 := by
  induction k with
  | zero => rfl
  | succ k ih => show inZ zs 0 k + _ = _; rw [ih, if_neg (by omega)]
theorem inZ_succ (zs : List Int) (m k : Nat) : inZ zs (m + 1) k = inZ zs m k + cntZ zs m k := by
  induction k with
  | zero => rfl
  | succ k ih =>
    show inZ zs (m + 1) k + _ = (inZ zs m k + _) + (cntZ zs m k + _)
    rw [ih]
    by_cases h : zat zs k = m
    · rw [if_pos (show 0 ≤ zat zs k ∧ zat zs k < ((m + 1 : Nat) : Int) by omega), if_neg (show ¬ (0 ≤ zat zs k ∧ zat zs k < (m : Int)) by omega), if_pos h]; omega
    · by_cases h2 : 0 ≤ zat zs k ∧ zat zs k < (m : Int)
      · rw [if_pos (show 0 ≤ zat zs k ∧ zat zs k < ((m + 1 : Nat) : Int) by omega), if_pos h2, if_neg h]; omega
      · rw [if_neg (show ¬ (0 ≤ zat zs k ∧ zat zs k < ((m + 1 : Nat) : Int)) by omega), if_neg h2, if_neg h]; omega
theorem inZ_le (zs : List Int) (m k : Nat) : inZ zs m k ≤ k := by
  induction k with
  | zero => exact Nat.le_refl 0
  | succ k ih => show inZ zs m k + _ ≤ _; split <;> omega
theorem inZ_all {zs : List Int} {m k : Nat} : inZ zs m k = k ↔ ∀ j, j < k → 0 ≤ zat zs j ∧ zat zs j < (m : Int) := by
  induction k with
  | zero => exact ⟨fun _ j h => absurd h (Nat.not_lt_zero j), fun _ => rfl⟩
  | succ k ih =>
    have hl := inZ_le zs m k
    show inZ zs m k + _ = _ ↔ _
    constructor
    · intro h
      by_cases c : 0 ≤ zat zs k ∧ zat zs k < (m : Int)
      · rw [if_pos c] at h
        intro j hj
        by_cases e : j = k
        · subst e; exact c
        · exact ih.1 (by omega) j (by omega)
      · rw [if_neg c] at h; omega
    · intro h
      rw [if_pos (h k (by omega)), ih.2 fun j hj => h j (by omega)]
theorem cntZ_two {zs : List Int} {r : Int} {i j k : Nat} (hj : j < i) (hi : i < k) (h1 : zat zs j = r) (h2 : zat zs i = r) : 2 ≤ cntZ zs r k := by
  have h0 : ∀ k, j < k → 1 ≤ cntZ zs r k := by
    intro k
    induction k with
    | zero => intro h; omega
    | succ k ih =>
      intro h
      show 1 ≤ cntZ zs r k + _
      by_cases e : j = k
      · subst e; rw [if_pos h1]; omega
      · have := ih (by omega); omega
  induction k with
  | zero => omega
  | succ k ih =>
    show 2 ≤ cntZ zs r k + _
    by_cases e : i = k
    · subst e
      rw [if_pos h2]
      have := h0 i hj
      omega
    · have := ih (by omega); omega
theorem cntZ_pos {zs : List Int} {r : Int} {k : Nat} (h : 1 ≤ cntZ zs r k) : ∃ j, j < k ∧ zat zs j = r := by
  induction k with
  | zero => exact absurd h (by show ¬ 1 ≤ 0; omega)
  | succ k ih =>
    by_cases e : zat zs k = r
    · exact ⟨k, by omega, e⟩
    · have h' : 1 ≤ cntZ zs r k + _ := h
      rw [if_neg e] at h'
      obtain ⟨j, hj, hz⟩ := ih (by omega)
      exact ⟨j, by omega, hz⟩
theorem cntZ_one {zs : List Int} {r : Int} {k : Nat} (h : good zs k) : cntZ zs r k ≤ 1 := by
  induction k with
  | zero => exact Nat.zero_le 1
  | succ k ih =>
    have hg := good_succ.1 h
    show cntZ zs r k + _ ≤ 1
    have hi := ih hg.1
    by_cases e : zat zs k = r
    · rw [if_pos e]
      rcases Nat.lt_or_ge 0 (cntZ zs r k) with hp | hp
      · obtain ⟨j, hj, hz⟩ := cntZ_pos hp
        exact absurd (hz.trans e.symm) (hg.2.2 j hj)
      · omega
    · rw [if_neg e]; omega
/-- each number is met just once -/
def onceB (zs : List Int) : Bool := (List.range zs.length).all fun i => cntZ zs (i : Int) zs.length == 1
theorem onceB_iff {zs : List Int} : onceB zs = true ↔ ∀ i : Nat, i < zs.length → cntZ zs (i : Int) zs.length = 1 := by simp [onceB]
theorem sum_le {zs : List Int} {k : Nat} (h : good zs k) (m : Nat) : inZ zs m k ≤ m := by
  induction m with
  | zero => rw [inZ_zero]; exact Nat.le_refl 0
  | succ m ih => rw [inZ_succ]; have := cntZ_one (r := (m : Int)) h; omega
theorem sum_less {zs : List Int} {k r : Nat} (h : good zs k) (hr : cntZ zs (r : Int) k = 0) (m : Nat) (hm : r < m) : inZ zs m k + 1 ≤ m := by
  induction m with
  | zero => omega
  | succ m ih =>
    rw [inZ_succ]
    by_cases e : r = m
    · subst e; rw [hr]; have := sum_le h r; omega
    · have := ih (by omega); have := cntZ_one (r := (m : Int)) h; omega
theorem once_good {zs : List Int} : onceB zs = true ↔ good zs zs.length := by
  rw [onceB_iff]
  constructor
  · intro h
    have hs : ∀ m, m ≤ zs.length → inZ zs m zs.length = m := by
      intro m
      induction m with
      | zero => intro _; exact inZ_zero _ _
      | succ m ih => intro hm; rw [inZ_succ, ih (by omega), h m (by omega)]
    have ha := inZ_all.1 (hs zs.length (Nat.le_refl _))
    intro i hi
    refine ⟨ha i hi, fun j hj e => ?_⟩
    have h1 := ha i hi
    have h2 := cntZ_two (k := zs.length) hj hi e rfl
    have h3 := h (zat zs i).toNat (by omega)
    rw [show (((zat zs i).toNat : Nat) : Int) = zat zs i by omega] at h3
    omega
  · intro h i hi
    have h1 := cntZ_one (r := (i : Int)) h
    rcases Nat.lt_or_ge 0 (cntZ zs (i : Int) zs.length) with hp | hp
    · omega
    · have h2 := sum_less h (by omega) zs.length hi
      have h3 : inZ zs zs.length zs.length = zs.length := inZ_all.2 fun j hj => (h j hj).1
      omega
theorem permB_once (zs : List Int) : permB zs = (onceB zs && decide (zs.length ≤ 64)) := by
  rw [Bool.eq_iff_iff, permB_iff, Bool.and_eq_true, once_good, decide_eq_true_eq]
  exact ⟨fun h => ⟨h.2, h.1⟩, fun h => ⟨h.2, h.1⟩⟩
/-- each number is there -/
theorem good_has {zs : List Int} (h : good zs zs.length) {r : Nat} (hr : r < zs.length) : ∃ i, i < zs.length ∧ zat zs i = r :=
  cntZ_pos (by rw [onceB_iff.1 (once_good.2 h) r hr]; exact Nat.le_refl 1)
theorem good_inj {zs : List Int} {k : Nat} (h : good zs k) {i j : Nat} (hi : i < k) (hj : j < k) (e : zat zs i = zat zs j) : i = j := by
  rcases Nat.lt_trichotomy i j with c | c | c
  · exact absurd e ((h j hj).2 i c)
  · exact c
  · exact absurd e.symm ((h i hi).2 j c)
theorem good_of {zs : List Int} (h1 : ∀ i, i < zs.length → 0 ≤ zat zs i ∧ zat zs i < zs.length) (h2 : ∀ i j, i < zs.length → j < zs.length → zat zs i = zat zs j → i = j) : good zs zs.length :=
  fun i hi => ⟨h1 i hi, fun j hj e => absurd (h2 j i (by omega) hi e) (by omega)⟩
theorem zat_set {zs : List Int} {j i : Nat} {z : Int} : zat (zs.set j z) i = if i = j ∧ j < zs.length then z else zat zs i := by
  unfold zat
  rw [List.getElem?_set]
  by_cases h : j = i
  · subst h
    by_cases h2 : j < zs.length
    · rw [if_pos rfl, if_pos h2, if_pos ⟨rfl, h2⟩]; rfl
    · rw [if_pos rfl, if_neg h2, if_neg (fun h => h2 h.2), List.getElem?_eq_none (by omega)]
  · rw [if_neg h, if_neg (fun q => h q.1.symm)]
/-- what undoes p, as far as its first k numbers tell -/
def invZ (zs : List Int) : Nat → List Int
  | 0 => List.replicate zs.length 0
  | k + 1 => (invZ zs k).set (zat zs k).toNat (k : Int)
theorem invZ_length (zs : List Int) (k : Nat) : (invZ zs k).length = zs.length := by
  induction k with
  | zero => simp [invZ]
  | succ k ih => show ((invZ zs k).set _ _).length = _; rw [List.length_set, ih]
theorem invZ_at {zs : List Int} {k : Nat} (h : good zs k) {i : Nat} (hi : i < k) : zat (invZ zs k) (zat zs i).toNat = (i : Int) := by
  induction k with
  | zero => omega
  | succ k ih =>
    have hg := good_succ.1 h
    show zat ((invZ zs k).set (zat zs k).toNat (k : Int)) _ = _
    rw [zat_set, invZ_length]
    by_cases e : i = k
    · subst e
      rw [if_pos ⟨rfl, by omega⟩]
    · have h1 := (hg.1 i (by omega)).1
      have h2 := hg.2.2 i (by omega)
      rw [if_neg (by omega), ih hg.1 (by omega)]
theorem invZ_perm {zs : List Int} (h : permB zs = true) : permB (invZ zs zs.length) = true := by
  obtain ⟨h1, h2⟩ := permB_iff.1 h
  have hl := invZ_length zs zs.length
  have hv : ∀ r, r < zs.length → ∃ i, i < zs.length ∧ zat zs i = (r : Int) ∧ zat (invZ zs zs.length) r = (i : Int) := by
    intro r hr
    obtain ⟨i, hi, e⟩ := good_has h2 hr
    have := invZ_at h2 hi
    rw [e, Int.toNat_natCast] at this
    exact ⟨i, hi, e, this⟩
  refine permB_iff.2 ⟨by omega, good_of ?_ ?_⟩
  · intro r hr
    rw [hl] at hr ⊢
    obtain ⟨i, hi, _, e⟩ := hv r hr
    rw [e]; omega
  · intro r s hr hs e
    rw [hl] at hr hs
    obtain ⟨i, hi, e1, e2⟩ := hv r hr
    obtain ⟨j, hj, e3, e4⟩ := hv s hs
    rw [e2, e4] at e
    have : i = j := by omega
    subst this
    omega
/-- one behind the other: p[q[i]] -/
def thenZ (ps qs : List Int) : List Int := (List.range qs.length).map fun i => zat ps (zat qs i).toNat
theorem thenZ_length (ps qs : List Int) : (thenZ ps qs).length = qs.length := by simp [thenZ]
theorem thenZ_at {ps qs : List Int} {i : Nat} (h : i < qs.length) : zat (thenZ ps qs) i = zat ps (zat qs i).toNat := by
  unfold thenZ
  show (((List.range qs.length).map fun i => zat ps (zat qs i).toNat)[i]?).getD 0 = _
  rw [List.getElem?_map, List.getElem?_range h, Option.map_some, Option.getD_some]
theorem thenZ_perm {ps qs : List Int} (hp : permB ps = true) (hq : permB qs = true) (hl : ps.length = qs.length) : permB (thenZ ps qs) = true := by
  obtain ⟨a1, a2⟩ := permB_iff.1 hp
  obtain ⟨b1, b2⟩ := permB_iff.1 hq
  have hn := thenZ_length ps qs
  refine permB_iff.2 ⟨by omega, good_of ?_ ?_⟩
  · intro i hi
    rw [hn] at hi ⊢
    rw [thenZ_at hi]
    have h1 := (b2 i hi).1
    have h2 := (a2 (zat qs i).toNat (by omega)).1
    omega
  · intro i j hi hj e
    rw [hn] at hi hj
    rw [thenZ_at hi, thenZ_at hj] at e
    have h1 := (b2 i hi).1
    have h2 := (b2 j hj).1
    have h3 := good_inj a2 (by omega) (by omega) e
    exact good_inj b2 hi hj (by omega)
/-- 0, 1, and so on -/
def idZ (n : Nat) : List Int := (List.range n).map fun (i : Nat) => (i : Int)
theorem idZ_length (n : Nat) : (idZ n).length = n := by simp [idZ]
theorem idZ_at {n i : Nat} (h : i < n) : zat (idZ n) i = (i : Int) := by
  unfold idZ
  show (((List.range n).map fun (i : Nat) => (i : Int))[i]?).getD 0 = _
  rw [List.getElem?_map, List.getElem?_range h, Option.map_some, Option.getD_some]
theorem idZ_perm {n : Nat} (h : n ≤ 64) : permB (idZ n) = true := by
  have hl := idZ_length n
  refine permB_iff.2 ⟨by omega, good_of ?_ ?_⟩
  · intro i hi; rw [hl] at hi ⊢; rw [idZ_at hi]; omega
  · intro i j hi hj e; rw [hl] at hi hj; rw [idZ_at hi, idZ_at hj] at e; omega
/-- two places that change what they hold -/
def swpZ (zs : List Int) (i j : Nat) : List Int := (zs.set i (zat zs j)).set j (zat zs i)
theorem swpZ_length (zs : List Int) (i j : Nat) : (swpZ zs i j).length = zs.length := by simp [swpZ]
theorem swpZ_at {zs : List Int} {i j k : Nat} (hi : i < zs.length) (hj : j < zs.length) : zat (swpZ zs i j) k = if k = j then zat zs i else if k = i then zat zs j else zat zs k := by
  unfold swpZ
  rw [zat_set, zat_set, List.length_set]
  by_cases h : k = j
  · rw [if_pos ⟨h, hj⟩, if_pos h]
  · rw [if_neg (fun q => h q.1), if_neg h]
    by_cases h2 : k = i
    · rw [if_pos ⟨h2, hi⟩, if_pos h2]
    · rw [if_neg (fun q => h2 q.1), if_neg h2]
theorem swpZ_perm {zs : List Int} {i j : Nat} (hi : i < zs.length) (hj : j < zs.length) (h : permB zs = true) : permB (swpZ zs i j) = true := by
  obtain ⟨a1, a2⟩ := permB_iff.1 h
  have hl := swpZ_length zs i j
  have e : ∀ k, ∃ k', (k < zs.length → k' < zs.length) ∧ zat (swpZ zs i j) k = zat zs k' ∧ ((k = j ∧ k' = i) ∨ (k ≠ j ∧ k = i ∧ k' = j) ∨ (k ≠ j ∧ k ≠ i ∧ k' = k)) := by
    intro k
    by_cases c : k = j
    · exact ⟨i, fun _ => hi, by rw [swpZ_at hi hj, if_pos c], .inl ⟨c, rfl⟩⟩
    · by_cases c2 : k = i
      · exact ⟨j, fun _ => hj, by rw [swpZ_at hi hj, if_neg c, if_pos c2], .inr (.inl ⟨c, c2, rfl⟩)⟩
      · exact ⟨k, id, by rw [swpZ_at hi hj, if_neg c, if_neg c2], .inr (.inr ⟨c, c2, rfl⟩)⟩
  refine permB_iff.2 ⟨by omega, good_of ?_ ?_⟩
  · intro k hk
    rw [hl] at hk ⊢
    obtain ⟨k', h1, h2, _⟩ := e k
    rw [h2]
    exact (a2 k' (h1 hk)).1
  · intro k m hk hm he
    rw [hl] at hk hm
    obtain ⟨k', h1, h2, h3⟩ := e k
    obtain ⟨m', g1, g2, g3⟩ := e m
    rw [h2, g2] at he
    have := good_inj a2 (h1 hk) (g1 hm) he
    omega
/-- the sign of a list of ints -/
def sgZ (zs : List Int) : Bool := sg (zs.map Int.toNat)
theorem sgZ_id (n : Nat) : sgZ (idZ n) = false := by
  unfold sgZ idZ
  rw [List.map_map]
  have : (Int.toNat ∘ fun (i : Nat) => (i : Int)) = id := by funext i; simp
  rw [this, List.map_id, sg_range]
theorem zat_split {zs : List Int} {i : Nat} (h : i < zs.length) : zs = zs.take i ++ zat zs i :: zs.drop (i + 1) := by
  have h1 : zs[i]? = some (zat zs i) := zat_get h
  have h2 : zs.drop i = zat zs i :: zs.drop (i + 1) := by
    rw [List.drop_eq_getElem_cons h]
    rw [List.getElem?_eq_getElem h] at h1
    rw [Option.some.inj h1]
  rw [← h2, List.take_append_drop]
theorem split2 {zs : List Int} {i j : Nat} (hij : i < j) (hj : j < zs.length) : ∃ a x b y c, zs = a ++ x :: (b ++ y :: c) ∧ a.length = i ∧ a.length + 1 + b.length = j := by
  have e1 := zat_split (zs := zs) (i := i) (by omega)
  have e2 := zat_split (zs := zs.drop (i + 1)) (i := j - i - 1) (by rw [List.length_drop]; omega)
  have l1 : (zs.take i).length = i := by rw [List.length_take]; omega
  have l2 : ((zs.drop (i + 1)).take (j - i - 1)).length = j - i - 1 := by rw [List.length_take, List.length_drop]; omega
  exact ⟨_, _, _, _, _, by rw [← e2]; exact e1, l1, by omega⟩
theorem swp_app (a b c : List Int) (x y : Int) : swpZ (a ++ x :: (b ++ y :: c)) a.length (a.length + 1 + b.length) = a ++ y :: (b ++ x :: c) := by
  have h1 : zat (a ++ x :: (b ++ y :: c)) a.length = x := by simp [zat]
  have h2 : zat (a ++ x :: (b ++ y :: c)) (a.length + 1 + b.length) = y := by
    unfold zat
    rw [List.getElem?_append_right (by omega), show a.length + 1 + b.length - a.length = b.length + 1 by omega, List.getElem?_cons_succ, List.getElem?_append_right (Nat.le_refl _)]
    simp
  unfold swpZ
  rw [h1, h2, List.set_append_right _ _ (Nat.le_refl _), Nat.sub_self, List.set_cons_zero, List.set_append_right _ _ (by omega), show a.length + 1 + b.length - a.length = b.length + 1 by omega, List.set_cons_succ, List.set_append_right _ _ (Nat.le_refl _), Nat.sub_self, List.set_cons_zero]
theorem good_nodup {zs : List Int} (h : good zs zs.length) : (zs.map Int.toNat).Pairwise (· ≠ ·) := by
  rw [List.pairwise_iff_getElem]
  intro i j hi hj hij
  rw [List.length_map] at hi hj
  rw [List.getElem_map, List.getElem_map]
  have a1 := (h j hj).2 i hij
  have a2 := (h i hi).1
  have a3 := (h j hj).1
  unfold zat at a1 a2 a3
  rw [List.getElem?_eq_getElem hi, Option.getD_some] at a1 a2
  rw [List.getElem?_eq_getElem hj, Option.getD_some] at a1 a3
  omega
theorem sgZ_swap_lt {zs : List Int} {i j : Nat} (hij : i < j) (hj : j < zs.length) (h : good zs zs.length) : sgZ (swpZ zs i j) = !sgZ zs := by
  have hn := good_nodup h
  obtain ⟨a, x, b, y, c, e, rfl, rfl⟩ := split2 hij hj
  subst e
  rw [swp_app]
  unfold sgZ
  simp only [List.map_append, List.map_cons] at hn ⊢
  rw [List.pairwise_append, List.pairwise_cons, List.pairwise_append, List.pairwise_cons] at hn
  obtain ⟨_, ⟨n1, _, _, n2⟩, _⟩ := hn
  have hxy : x.toNat ≠ y.toNat := n1 _ (by simp)
  have h1 := sg_swap (a := a.map Int.toNat) (b := b.map Int.toNat) (c := c.map Int.toNat) hxy (fun z hz => n1 z (by simp only [List.mem_append]; exact .inl hz)) (fun z hz => (n2 z hz _ (by simp)).symm)
  rw [h1, Bool.not_not]
theorem swpZ_comm {zs : List Int} {i j : Nat} (hi : i < zs.length) (hj : j < zs.length) : swpZ zs i j = swpZ zs j i := by
  refine zat_ext (by rw [swpZ_length, swpZ_length]) fun k _ => ?_
  rw [swpZ_at hi hj, swpZ_at hj hi]
  by_cases h1 : k = j
  · by_cases h2 : k = i
    · rw [if_pos h1, if_pos h2, ← h1, ← h2]
    · rw [if_pos h1, if_neg h2, if_pos h1]
  · by_cases h2 : k = i
    · rw [if_neg h1, if_pos h2, if_pos h2]
    · rw [if_neg h1, if_neg h2, if_neg h2, if_neg h1]
theorem swpZ_self {zs : List Int} {i : Nat} (hi : i < zs.length) : swpZ zs i i = zs := by
  refine zat_ext (swpZ_length _ _ _) fun k _ => ?_
  rw [swpZ_at hi hi]
  by_cases h : k = i
  · rw [if_pos h, h]
  · rw [if_neg h, if_neg h]
/-- two rows that change places: the other sign -/
theorem sgZ_swap {zs : List Int} {i j : Nat} (hi : i < zs.length) (hj : j < zs.length) (h : good zs zs.length) : sgZ (swpZ zs i j) = (decide (i ≠ j) != sgZ zs) := by
  rcases Nat.lt_trichotomy i j with c | c | c
  · rw [sgZ_swap_lt c hj h, decide_eq_true (by omega)]; cases sgZ zs <;> rfl
  · subst c; rw [swpZ_self hi, decide_eq_false (by omega)]; cases sgZ zs <;> rfl
  · rw [swpZ_comm hi hj, sgZ_swap_lt c hi h, decide_eq_true (by omega)]; cases sgZ zs <;> rfl
theorem count_cnt {zs : List Int} (h : ∀ i, i < zs.length → 0 ≤ zat zs i) (r k : Nat) (hk : k ≤ zs.length) : ((zs.map Int.toNat).take k).count r = cntZ zs (r : Int) k := by
  induction k with
  | zero => rfl
  | succ k ih =>
    have hm : (zs.map Int.toNat)[k]? = some (zat zs k).toNat := by rw [List.getElem?_map, zat_get (by omega)]; rfl
    rw [List.take_add_one, hm, List.count_append, ih (by omega)]
    show _ = cntZ zs (r : Int) k + _
    have h0 := h k (by omega)
    by_cases e : zat zs k = (r : Int)
    · have e2 : (zat zs k).toNat = r := by omega
      rw [if_pos e, e2]; simp
    · have e2 : (zat zs k).toNat ≠ r := by omega
      rw [if_neg e]; simp [e2]
theorem count_one {zs : List Int} (h : good zs zs.length) (r : Nat) : (zs.map Int.toNat).count r = if r < zs.length then 1 else 0 := by
  have hc := count_cnt (fun i hi => (h i hi).1.1) r zs.length (Nat.le_refl _)
  rw [List.take_of_length_le (by rw [List.length_map]; exact Nat.le_refl _)] at hc
  rw [hc]
  by_cases hr : r < zs.length
  · rw [if_pos hr, onceB_iff.1 (once_good.2 h) r hr]
  · rw [if_neg hr]
    rcases Nat.lt_or_ge 0 (cntZ zs (r : Int) zs.length) with hp | hp
    · obtain ⟨j, hj, hz⟩ := cntZ_pos hp
      have := (h j hj).1
      omega
    · omega
theorem idZ_nat (n : Nat) : (idZ n).map Int.toNat = List.range n := by
  unfold idZ
  rw [List.map_map]
  have : (Int.toNat ∘ fun (i : Nat) => (i : Int)) = id := by funext i; simp
  rw [this, List.map_id]
theorem good_range {zs : List Int} (h : good zs zs.length) : (zs.map Int.toNat).Perm (List.range zs.length) := by
  rw [List.perm_iff_count]
  intro r
  have hg : good (idZ zs.length) (idZ zs.length).length := by
    refine good_of ?_ ?_
    · intro i hi; rw [idZ_length] at hi ⊢; rw [idZ_at hi]; omega
    · intro i j hi hj e; rw [idZ_length] at hi hj; rw [idZ_at hi, idZ_at hj] at e; omega
  rw [count_one h, ← idZ_nat, count_one hg, idZ_length]
/-- one behind the other: odd just if one of both is -/
theorem sgZ_then {ps qs : List Int} (hp : permB ps = true) (hq : permB qs = true) (hl : ps.length = qs.length) : sgZ (thenZ ps qs) = (sgZ ps != sgZ qs) := by
  obtain ⟨_, a2⟩ := permB_iff.1 hp
  obtain ⟨_, b2⟩ := permB_iff.1 hq
  have h := sg_map (p := fun i => (zat ps i).toNat) (good_range b2) (by
    intro a b ha hb e
    have e : (zat ps a).toNat = (zat ps b).toNat := e
    have h1 := (a2 a (by omega)).1
    have h2 := (a2 b (by omega)).1
    exact good_inj a2 (by omega) (by omega) (by omega))
  have e1 : (thenZ ps qs).map Int.toNat = (qs.map Int.toNat).map fun i => (zat ps i).toNat := by
    apply List.ext_getElem
    · simp [thenZ]
    · intro i h1 h2
      have hi : i < qs.length := by simpa [thenZ] using h1
      simp only [thenZ, List.map_map, List.getElem_map, List.getElem_range, Function.comp]
      congr 3
      unfold zat
      rw [List.getElem?_eq_getElem hi]; rfl
  have e2 : ps.map Int.toNat = (List.range qs.length).map fun i => (zat ps i).toNat := by
    apply List.ext_getElem
    · simp [hl]
    · intro i h1 h2
      have hi : i < ps.length := by simpa using h1
      simp only [List.getElem_map, List.getElem_range]
      unfold zat
      rw [List.getElem?_eq_getElem hi]; rfl
  unfold sgZ
  rw [e1, e2, h]
/-- a permutation and what undoes it -/
theorem then_inv {zs : List Int} (h : permB zs = true) : thenZ zs (invZ zs zs.length) = idZ zs.length := by
  obtain ⟨_, h2⟩ := permB_iff.1 h
  have hl := invZ_length zs zs.length
  refine zat_ext (by rw [thenZ_length, hl, idZ_length]) fun r hr => ?_
  rw [thenZ_length] at hr
  rw [thenZ_at hr]
  rw [hl] at hr
  obtain ⟨i, hi, e⟩ := good_has h2 hr
  have := invZ_at h2 hi
  rw [e, Int.toNat_natCast] at this
  rw [this, idZ_at hr, Int.toNat_natCast, e]
end Go.Proofs.Ytgppbimbampenaa
