/- Plain numbers: lists of digits, the lowest first, and the numbers that they are. No program is named here. -/
import Derived.RangeFuncNested
import Derived.RangeFuncBound
import Derived.RangeFuncCalls
import Derived.RangeFuncLeaves
import Derived.Shelf.Abstract
import Derived.Shelf.RegionOpen
import Derived.WalkKit
import Derived.OwnWalkIn
import Derived.TacticsInMore
import Derived.LoopNIn
import Derived.LoopIn
import Derived.Lib.Hide
import Derived.Test.YtjapilpjahhimaaProg
import Derived.Shelf.Spec.BitsCarry
import Derived.Sort.CutIn
import Derived.BigQuiet
import Derived.Deep.QuietTactic
import Derived.Laws.MakeOwn
import Derived.Laws.OwnMore
import Derived.Deep.RegionHeld3
namespace Go.Proofs.Ytjapilpjahhimaa

def lim (xs : List Nat) (i : Nat) : Nat := xs[i]?.getD 0
def val (B : Nat) : List Nat → Nat
  | [] => 0
  | x :: r => x + B * val B r
def cutz : List Nat → List Nat
  | [] => []
  | x :: r => if cutz r = [] ∧ x = 0 then [] else x :: cutz r
def digs (B n : Nat) : List Nat := if n = 0 ∨ B < 2 then [] else n % B :: digs B (n / B)
termination_by n
decreasing_by exact Nat.div_lt_self (by omega) (by omega)
/-- what the lowest k digits are -/
def part (B : Nat) (xs : List Nat) : Nat → Nat
  | 0 => 0
  | k + 1 => part B xs k + B ^ k * lim xs k
def Low (B : Nat) (xs : List Nat) : Prop := ∀ x ∈ xs, x < B

theorem lim_lt {B : Nat} {xs : List Nat} (h : Low B xs) (hB : 0 < B) (i : Nat) : lim xs i < B := by
  unfold lim
  rcases Nat.lt_or_ge i xs.length with hi | hi
  · rw [List.getElem?_eq_getElem hi]; exact h _ (List.getElem_mem hi)
  · rw [List.getElem?_eq_none hi]; exact hB
theorem lim_ge {xs : List Nat} {i : Nat} (h : xs.length ≤ i) : lim xs i = 0 := by unfold lim; rw [List.getElem?_eq_none h]; rfl
theorem lim_cons_zero (x : Nat) (r : List Nat) : lim (x :: r) 0 = x := rfl
theorem lim_cons_succ (x : Nat) (r : List Nat) (i : Nat) : lim (x :: r) (i + 1) = lim r i := rfl
theorem lim_set (xs : List Nat) (j v i : Nat) : lim (xs.set j v) i = if i = j ∧ j < xs.length then v else lim xs i := by
  unfold lim
  rw [List.getElem?_set]
  by_cases h : j = i
  · subst h
    by_cases hl : j < xs.length
    · simp [hl]
    · simp [hl]
  · simp [h, Ne.symm h]
theorem getElem?_lim {xs : List Nat} {i : Nat} (h : i < xs.length) : xs[i]? = some (lim xs i) := by
  unfold lim; rw [List.getElem?_eq_getElem h]; rfl
theorem lim_take {xs : List Nat} {k i : Nat} (h : i < k) : lim (xs.take k) i = lim xs i := by
  unfold lim; rw [List.getElem?_take_of_lt h]
theorem lim_ext {xs ys : List Nat} (hl : xs.length = ys.length) (h : ∀ i, i < xs.length → lim xs i = lim ys i) : xs = ys := by
  apply List.ext_getElem hl
  intro i h1 h2
  have := h i h1
  unfold lim at this
  rwa [List.getElem?_eq_getElem h1, List.getElem?_eq_getElem h2] at this

theorem val_append (B : Nat) (xs ys : List Nat) : val B (xs ++ ys) = val B xs + B ^ xs.length * val B ys := by
  induction xs with
  | nil => simp [val]
  | cons x r ih =>
    simp only [List.cons_append, val, ih, List.length_cons, Nat.pow_succ]
    rw [Nat.mul_add, ← Nat.mul_assoc, Nat.mul_comm B (B ^ r.length)]
    omega
theorem val_zeros (B : Nat) (xs : List Nat) (h : ∀ x ∈ xs, x = 0) : val B xs = 0 := by
  induction xs with
  | nil => rfl
  | cons x r ih =>
    have h1 := h x (List.mem_cons_self ..)
    have h2 := ih fun y hy => h y (List.mem_cons_of_mem _ hy)
    simp [val, h1, h2]
theorem val_lt {B : Nat} {xs : List Nat} (h : Low B xs) (_hB : 0 < B) : val B xs < B ^ xs.length := by
  induction xs with
  | nil => simp [val]
  | cons x r ih =>
    have h1 := h x (List.mem_cons_self ..)
    have h2 := ih fun y hy => h y (List.mem_cons_of_mem _ hy)
    have h3 : B * (val B r + 1) ≤ B * B ^ r.length := Nat.mul_le_mul_left _ h2
    rw [Nat.mul_add] at h3
    simp only [val, List.length_cons, Nat.pow_succ]
    rw [Nat.mul_comm (B ^ r.length) B]
    omega

theorem part_eq_val_take (B : Nat) (xs : List Nat) (k : Nat) (hk : k ≤ xs.length) : part B xs k = val B (xs.take k) := by
  induction k with
  | zero => simp [part, val]
  | succ k ih =>
    have h := ih (by omega)
    have hk' : k < xs.length := by omega
    rw [part, h, List.take_succ_eq_append_getElem hk', val_append]
    simp [val, lim, List.getElem?_eq_getElem hk', Nat.min_eq_left (Nat.le_of_lt hk')]
theorem part_ge (B : Nat) (xs : List Nat) (k : Nat) (hk : xs.length ≤ k) : part B xs k = val B xs := by
  induction k with
  | zero =>
    have : xs = [] := List.eq_nil_of_length_eq_zero (by omega)
    subst this; rfl
  | succ k ih =>
    rcases Nat.lt_or_ge k xs.length with h | h
    · have : k + 1 = xs.length := by omega
      rw [this, part_eq_val_take B xs _ (Nat.le_refl _), List.take_of_length_le (Nat.le_refl _)]
    · rw [part, ih h, lim_ge h]; simp
theorem part_all (B : Nat) (xs : List Nat) : part B xs xs.length = val B xs := part_ge B xs _ (Nat.le_refl _)
theorem part_lt {B : Nat} {xs : List Nat} (h : Low B xs) (hB : 0 < B) (k : Nat) : part B xs k < B ^ k := by
  induction k with
  | zero => simp [part]
  | succ k ih =>
    have h1 := lim_lt h hB k
    have h3 : B ^ k * (lim xs k + 1) ≤ B ^ k * B := Nat.mul_le_mul_left _ h1
    rw [Nat.mul_add] at h3
    rw [part, Nat.pow_succ]
    omega
theorem part_congr {B : Nat} {xs ys : List Nat} {k : Nat} (h : ∀ i, i < k → lim xs i = lim ys i) : part B xs k = part B ys k := by
  induction k with
  | zero => rfl
  | succ k ih => rw [part, part, ih fun i hi => h i (by omega), h k (by omega)]
theorem part_set_ge {B : Nat} {xs : List Nat} {j v k : Nat} (h : k ≤ j) : part B (xs.set j v) k = part B xs k :=
  part_congr fun i hi => by rw [lim_set, if_neg (by omega)]

theorem cutz_nil : cutz [] = [] := rfl
theorem cutz_zeros {r : List Nat} (h : ∀ x ∈ r, x = 0) : cutz r = [] := by
  induction r with
  | nil => rfl
  | cons x r ih =>
    have h1 := h x (List.mem_cons_self ..)
    have h2 := ih fun y hy => h y (List.mem_cons_of_mem _ hy)
    simp [cutz, h1, h2]
theorem cutz_app_zeros {xs r : List Nat} (h : ∀ x ∈ r, x = 0) : cutz (xs ++ r) = cutz xs := by
  induction xs with
  | nil => simp [cutz_zeros h, cutz]
  | cons x s ih => simp only [List.cons_append, cutz, ih]
theorem cutz_snoc {xs : List Nat} {x : Nat} (h : x ≠ 0) : cutz (xs ++ [x]) = xs ++ [x] := by
  induction xs with
  | nil => simp [cutz, h]
  | cons y s ih => simp only [List.cons_append, cutz, ih]; simp
theorem cutz_take {xs : List Nat} {i : Nat} (hi : i < xs.length) (h : lim xs i ≠ 0) (hz : ∀ j, i < j → j < xs.length → lim xs j = 0) : cutz xs = xs.take (i + 1) := by
  have e : xs = xs.take (i + 1) ++ xs.drop (i + 1) := (List.take_append_drop _ _).symm
  have hd : ∀ x ∈ xs.drop (i + 1), x = 0 := by
    intro x hx
    obtain ⟨j, hj, rfl⟩ := List.getElem_of_mem hx
    have hl : i + 1 + j < xs.length := by rw [List.length_drop] at hj; omega
    have := hz (i + 1 + j) (by omega) hl
    rw [List.getElem_drop]
    unfold lim at this
    rwa [List.getElem?_eq_getElem hl] at this
  have ht : xs.take (i + 1) = xs.take i ++ [lim xs i] := by
    rw [List.take_succ_eq_append_getElem hi]; unfold lim; rw [List.getElem?_eq_getElem hi]; rfl
  calc cutz xs = cutz (xs.take (i + 1) ++ xs.drop (i + 1)) := by rw [← e]
    _ = cutz (xs.take (i + 1)) := cutz_app_zeros hd
    _ = xs.take (i + 1) := by rw [ht, cutz_snoc h]
theorem cutz_none {xs : List Nat} (hz : ∀ j, j < xs.length → lim xs j = 0) : cutz xs = [] := by
  apply cutz_zeros
  intro x hx
  obtain ⟨j, hj, rfl⟩ := List.getElem_of_mem hx
  have := hz j hj
  unfold lim at this
  rwa [List.getElem?_eq_getElem hj] at this
theorem cutz_mem {xs : List Nat} {x : Nat} (h : x ∈ cutz xs) : x ∈ xs := by
  induction xs with
  | nil => exact h
  | cons y r ih =>
    rw [cutz] at h
    split at h
    · cases h
    · rcases List.mem_cons.1 h with e | e
      · subst e; exact List.mem_cons_self ..
      · exact List.mem_cons_of_mem _ (ih e)
theorem cutz_low {B : Nat} {xs : List Nat} (h : Low B xs) : Low B (cutz xs) := fun x hx => h x (cutz_mem hx)
theorem cutz_length (xs : List Nat) : (cutz xs).length ≤ xs.length := by
  induction xs with
  | nil => simp [cutz]
  | cons y r ih => rw [cutz]; split <;> simp <;> omega
theorem cutz_cutz (xs : List Nat) : cutz (cutz xs) = cutz xs := by
  induction xs with
  | nil => rfl
  | cons y r ih =>
    rw [cutz]
    split
    · rfl
    · rename_i h
      rw [cutz, ih, if_neg h]
theorem val_cutz (B : Nat) (xs : List Nat) : val B (cutz xs) = val B xs := by
  induction xs with
  | nil => rfl
  | cons y r ih =>
    rw [cutz]
    split
    · rename_i h
      rw [h.1] at ih
      simp only [val] at ih ⊢
      rw [← ih, h.2]; simp
    · rw [val, val, ih]
theorem digs_zero (B : Nat) : digs B 0 = [] := by rw [digs]; simp
theorem digs_pos {B n : Nat} (hB : 1 < B) (hn : n ≠ 0) : digs B n = n % B :: digs B (n / B) := by rw [digs, if_neg (by omega)]
theorem digs_val {B : Nat} {xs : List Nat} (hB : 1 < B) (h : Low B xs) : digs B (val B xs) = cutz xs := by
  induction xs with
  | nil => simp [val, digs_zero, cutz]
  | cons x r ih =>
    have h1 := h x (List.mem_cons_self ..)
    have h2 := ih fun y hy => h y (List.mem_cons_of_mem _ hy)
    rw [cutz, ← h2]
    by_cases hz : val B r = 0
    · rw [hz, digs_zero]
      by_cases hx : x = 0
      · simp [val, hz, hx, digs_zero]
      · rw [if_neg (by simp [hx]), val, hz, digs_pos hB (by omega)]
        simp [Nat.mod_eq_of_lt h1, Nat.div_eq_of_lt h1, digs_zero]
    · have hne : digs B (val B r) ≠ [] := by rw [digs_pos hB hz]; simp
      have hp : 0 < B * val B r := Nat.mul_pos (by omega) (by omega)
      rw [if_neg (by simp [hne]), val, digs_pos hB (by omega), Nat.add_mul_mod_self_left, Nat.mod_eq_of_lt h1, Nat.add_mul_div_left _ _ (by omega), Nat.div_eq_of_lt h1, Nat.zero_add]
theorem val_digs {B : Nat} (hB : 1 < B) (n : Nat) : val B (digs B n) = n := by
  induction n using Nat.strongRecOn with
  | _ n ih =>
    by_cases hn : n = 0
    · subst hn; rw [digs_zero]; rfl
    · rw [digs_pos hB hn, val, ih _ (Nat.div_lt_self (by omega) hB)]
      exact Nat.mod_add_div n B
theorem digs_low {B : Nat} (hB : 1 < B) (n : Nat) : Low B (digs B n) := by
  induction n using Nat.strongRecOn with
  | _ n ih =>
    by_cases hn : n = 0
    · subst hn; rw [digs_zero]; intro x hx; cases hx
    · rw [digs_pos hB hn]
      intro x hx
      rcases List.mem_cons.1 hx with e | e
      · subst e; exact Nat.mod_lt _ (by omega)
      · exact ih _ (Nat.div_lt_self (by omega) hB) x e
theorem cutz_digs {B : Nat} (hB : 1 < B) (n : Nat) : cutz (digs B n) = digs B n := by
  rw [← digs_val hB (digs_low hB n), val_digs hB]
theorem cutz_eq_digs {B : Nat} {xs : List Nat} (hB : 1 < B) (h : Low B xs) : cutz xs = digs B (val B xs) := (digs_val hB h).symm
/-- the greatest digit is not 0 -/
theorem cutz_top {xs : List Nat} (h : cutz xs = xs) (hne : xs ≠ []) : lim xs (xs.length - 1) ≠ 0 := by
  intro h0
  have hl : 0 < xs.length := List.length_pos_iff.2 hne
  have e : xs = xs.take (xs.length - 1) ++ [lim xs (xs.length - 1)] := by
    have := List.take_succ_eq_append_getElem (l := xs) (i := xs.length - 1) (by omega)
    rw [Nat.sub_add_cancel (by omega), List.take_of_length_le (Nat.le_refl _)] at this
    unfold lim
    rw [List.getElem?_eq_getElem (by omega)]
    exact this
  have h2 : (cutz xs).length ≤ xs.length - 1 := by
    rw [e, cutz_app_zeros (r := [lim xs (xs.length - 1)]) (by simp [h0])]
    have := cutz_length (xs.take (xs.length - 1))
    have h3 := List.length_take_le (xs.length - 1) xs
    simp only [List.length_append, List.length_take, List.length_cons, List.length_nil]
    omega
  rw [h] at h2
  omega
theorem low_length_le {B : Nat} {xs ys : List Nat} (hB : 1 < B) (hx : Low B xs) (hy : cutz ys = ys) (h : val B ys ≤ val B xs) : ys.length ≤ xs.length := by
  by_cases hne : ys = []
  · subst hne; simp
  · have h1 := cutz_top hy hne
    have hl : 0 < ys.length := List.length_pos_iff.2 hne
    have h2 := val_lt hx (by omega)
    have h3 : B ^ (ys.length - 1) ≤ val B ys := by
      rw [← part_all, show ys.length = ys.length - 1 + 1 by omega, part]
      have : B ^ (ys.length - 1) * 1 ≤ B ^ (ys.length - 1) * lim ys (ys.length - 1) := Nat.mul_le_mul_left _ (by omega)
      simp only [Nat.add_sub_cancel] at *
      omega
    have h4 : B ^ (ys.length - 1) < B ^ xs.length := by omega
    have h5 : ys.length - 1 < xs.length := (Nat.pow_lt_pow_iff_right hB).1 h4
    omega
theorem low_length_lt {B : Nat} {xs ys : List Nat} (hB : 1 < B) (hx : Low B xs) (hy : cutz ys = ys) (h : xs.length < ys.length) : val B xs < val B ys := by
  rcases Nat.lt_or_ge (val B xs) (val B ys) with h1 | h1
  · exact h1
  · have := low_length_le hB hx hy h1; omega

/-- how two numbers stand -/
def cmpN (a b : Nat) : Int := if a < b then -1 else if b < a then 1 else 0
theorem cmpN_self (a : Nat) : cmpN a a = 0 := by simp [cmpN]
theorem cmpN_lt {a b : Nat} (h : a < b) : cmpN a b = -1 := by simp [cmpN, h]
theorem cmpN_gt {a b : Nat} (h : b < a) : cmpN a b = 1 := by simp [cmpN, h]; omega
/-- two lists of one length that are the same above place i: place i decides -/
theorem val_lt_at {B : Nat} {xs ys : List Nat} (hB : 1 < B) (hx : Low B xs) (_hy : Low B ys) (hl : xs.length = ys.length) {i : Nat} (hi : i < xs.length)
    (hs : ∀ j, i < j → j < xs.length → lim xs j = lim ys j) (h : lim xs i < lim ys i) : val B xs < val B ys := by
  have key : ∀ k, i < k → k ≤ xs.length → part B xs k < part B ys k := by
    intro k hk hkl
    induction k with
    | zero => omega
    | succ k ih =>
      rcases Nat.lt_or_ge i k with h1 | h1
      · have := ih h1 (by omega)
        rw [part, part, hs k h1 (by omega)]
        omega
      · obtain rfl : k = i := by omega
        have h2 := part_lt hx (by omega) k
        have h3 : B ^ k * (lim xs k + 1) ≤ B ^ k * lim ys k := Nat.mul_le_mul_left _ h
        rw [Nat.mul_add] at h3
        rw [part, part]
        omega
  have := key xs.length hi (Nat.le_refl _)
  rw [part_all, hl, part_all] at this
  exact this
theorem val_split {B : Nat} {s : List Nat} {j : Nat} (hj : j ≤ s.length) : val B s = part B s j + B ^ j * val B (s.drop j) := by
  have e : s = s.take j ++ s.drop j := (List.take_append_drop _ _).symm
  have h := val_append B (s.take j) (s.drop j)
  rw [← e, List.length_take, Nat.min_eq_left hj] at h
  rw [h, part_eq_val_take B s j hj]
end Go.Proofs.Ytjapilpjahhimaa

/- What the loops of nat.Add, nat.Sub reckon, place by place: plain numbers. -/
namespace Go.Proofs.Ytjapilpjahhimaa

def runL (f : List Nat × Nat → Nat → List Nat × Nat) (n : Nat) (l : List Nat) : List Nat × Nat := l.foldl f (List.replicate n 0, 0)
theorem runL_nil (f : List Nat × Nat → Nat → List Nat × Nat) (n : Nat) : runL f n [] = (List.replicate n 0, 0) := rfl
theorem runL_snoc (f : List Nat × Nat → Nat → List Nat × Nat) (n : Nat) (l : List Nat) (j : Nat) : runL f n (l ++ [j]) = f (runL f n l) j := by simp [runL]
theorem runL_ind {f : List Nat × Nat → Nat → List Nat × Nat} {n : Nat} (M : List Nat × Nat → Prop) (h0 : M (List.replicate n 0, 0)) (hs : ∀ s j, M s → M (f s j)) (l : List Nat) : M (runL f n l) := by
  unfold runL
  generalize (List.replicate n 0, 0) = s at h0 ⊢
  induction l generalizing s with
  | nil => exact h0
  | cons x r ih => exact ih _ (hs s x h0)
theorem low_set {B : Nat} {s : List Nat} {j v : Nat} (h : Low B s) (hv : v < B) : Low B (s.set j v) := fun x hx => by
  rcases List.mem_or_eq_of_mem_set hx with h1 | h1
  · exact h x h1
  · subst h1; exact hv
theorem low_rep {B n : Nat} (hB : 0 < B) : Low B (List.replicate n 0) := fun x hx => by rw [List.eq_of_mem_replicate hx]; exact hB

def add64 (p q c : Nat) : Nat := (p + q + c) % 18446744073709551616
def carry64 (p q c : Nat) : Nat := (p + q + c) / 18446744073709551616
def sub64 (p q c : Nat) : Nat := (p + 18446744073709551616 - q - c) % 18446744073709551616
def borrow64 (p q c : Nat) : Nat := if p < q + c then 1 else 0
def addStep (P Q : List Nat) (s : List Nat × Nat) (j : Nat) : List Nat × Nat :=
  (s.1.set j (add64 (lim P j) (lim Q j) s.2), carry64 (lim P j) (lim Q j) s.2)
def subStep (P Q : List Nat) (s : List Nat × Nat) (j : Nat) : List Nat × Nat :=
  (s.1.set j (sub64 (lim P j) (lim Q j) s.2), borrow64 (lim P j) (lim Q j) s.2)
def Fine (n : Nat) (s : List Nat × Nat) : Prop := s.1.length = n ∧ s.2 ≤ 1 ∧ Low 18446744073709551616 s.1
theorem fine_zero (n : Nat) : Fine n (List.replicate n 0, 0) := ⟨by simp, Nat.zero_le _, low_rep (by decide)⟩
theorem add_fine {P Q : List Nat} (hP : Low 18446744073709551616 P) (hQ : Low 18446744073709551616 Q) (n : Nat) (l : List Nat) : Fine n (runL (addStep P Q) n l) :=
  runL_ind (Fine n) (fine_zero n) (fun s j ⟨h1, h2, h3⟩ => by
    have hp := lim_lt hP (by decide) j
    have hq := lim_lt hQ (by decide) j
    refine ⟨by simp [addStep, h1], ?_, low_set h3 (Nat.mod_lt _ (by decide))⟩
    simp only [addStep, carry64]
    omega) l
theorem sub_fine (P Q : List Nat) (n : Nat) (l : List Nat) : Fine n (runL (subStep P Q) n l) :=
  runL_ind (Fine n) (fine_zero n) (fun s j ⟨h1, h2, h3⟩ => by
    refine ⟨by simp [subStep, h1], ?_, low_set h3 (Nat.mod_lt _ (by decide))⟩
    simp only [subStep, borrow64]
    split <;> omega) l
theorem add_range {P Q : List Nat} (hP : Low 18446744073709551616 P) (hQ : Low 18446744073709551616 Q) (n : Nat) (k : Nat) (hk : k ≤ n) :
    part 18446744073709551616 (runL (addStep P Q) n (List.range k)).1 k + 18446744073709551616 ^ k * (runL (addStep P Q) n (List.range k)).2 = part 18446744073709551616 P k + part 18446744073709551616 Q k := by
  induction k with
  | zero => simp [part, runL]
  | succ k ih =>
    have hi := ih (by omega)
    obtain ⟨f1, f2, _⟩ := add_fine hP hQ n (List.range k)
    rw [List.range_succ, runL_snoc]
    generalize runL (addStep P Q) n (List.range k) = s at hi f1 f2 ⊢
    simp only [addStep, add64, carry64, part, part_set_ge (Nat.le_refl k), lim_set]
    rw [if_pos ⟨trivial, by omega⟩, Nat.pow_succ]
    have hd : (lim P k + lim Q k + s.2) % 18446744073709551616 + 18446744073709551616 * ((lim P k + lim Q k + s.2) / 18446744073709551616) = lim P k + lim Q k + s.2 := Nat.mod_add_div _ _
    have hm := congrArg (18446744073709551616 ^ k * ·) hd
    simp only [Nat.mul_add, ← Nat.mul_assoc] at hm
    omega
theorem sub_range {P Q : List Nat} (hP : Low 18446744073709551616 P) (hQ : Low 18446744073709551616 Q) (n : Nat) (k : Nat) (hk : k ≤ n) :
    part 18446744073709551616 (runL (subStep P Q) n (List.range k)).1 k + part 18446744073709551616 Q k = part 18446744073709551616 P k + 18446744073709551616 ^ k * (runL (subStep P Q) n (List.range k)).2 := by
  induction k with
  | zero => simp [part, runL]
  | succ k ih =>
    have hi := ih (by omega)
    obtain ⟨f1, f2, _⟩ := sub_fine P Q n (List.range k)
    have hp := lim_lt hP (by decide) k
    have hq := lim_lt hQ (by decide) k
    rw [List.range_succ, runL_snoc]
    generalize runL (subStep P Q) n (List.range k) = s at hi f1 f2 ⊢
    simp only [subStep, sub64, borrow64, part, part_set_ge (Nat.le_refl k), lim_set]
    rw [if_pos ⟨trivial, by omega⟩, Nat.pow_succ]
    have hd : (lim P k + 18446744073709551616 - lim Q k - s.2) % 18446744073709551616 + lim Q k + s.2 = lim P k + 18446744073709551616 * (if lim P k < lim Q k + s.2 then 1 else 0) := by
      split <;> omega
    have hm := congrArg (18446744073709551616 ^ k * ·) hd
    simp only [Nat.mul_add, ← Nat.mul_assoc] at hm
    omega
/-- how far two numbers are apart -/
def dist (a b : Nat) : Nat := a - b + (b - a)
theorem dist_comm (a b : Nat) : dist a b = dist b a := by unfold dist; omega
theorem dist_ge {a b : Nat} (h : b ≤ a) : dist a b = a - b := by unfold dist; omega
theorem sub_all {P Q : List Nat} (hP : Low 18446744073709551616 P) (hQ : Low 18446744073709551616 Q) (hl : Q.length ≤ P.length) (hv : val 18446744073709551616 Q ≤ val 18446744073709551616 P) :
    cutz (runL (subStep P Q) P.length (List.range P.length)).1 = digs 18446744073709551616 (val 18446744073709551616 P - val 18446744073709551616 Q) := by
  have h := sub_range hP hQ P.length P.length (Nat.le_refl _)
  obtain ⟨f1, f2, f3⟩ := sub_fine P Q P.length (List.range P.length)
  generalize runL (subStep P Q) P.length (List.range P.length) = s at h f1 f2 f3 ⊢
  rw [cutz_eq_digs (by decide) f3]
  have h1 : part 18446744073709551616 s.1 P.length = val 18446744073709551616 s.1 := by rw [← f1, part_all]
  have h2 := val_lt f3 (by decide)
  rw [part_all, part_ge _ Q _ hl, h1] at h
  rw [f1] at h2
  have h3 : s.2 = 0 ∨ s.2 = 1 := by omega
  rcases h3 with h3 | h3
  · rw [h3] at h
    congr 1
    omega
  · rw [h3] at h
    omega
theorem add_all {P Q : List Nat} (hP : Low 18446744073709551616 P) (hQ : Low 18446744073709551616 Q) (hl : Q.length ≤ P.length) :
    cutz ((runL (addStep P Q) (P.length + 1) (List.range P.length)).1.set P.length (runL (addStep P Q) (P.length + 1) (List.range P.length)).2) = digs 18446744073709551616 (val 18446744073709551616 P + val 18446744073709551616 Q) := by
  have h := add_range hP hQ (P.length + 1) P.length (by omega)
  obtain ⟨f1, f2, f3⟩ := add_fine hP hQ (P.length + 1) (List.range P.length)
  generalize runL (addStep P Q) (P.length + 1) (List.range P.length) = s at h f1 f2 f3 ⊢
  have hl' : (s.1.set P.length s.2).length = P.length + 1 := by simp [f1]
  rw [cutz_eq_digs (by decide) (low_set f3 (by omega)), ← part_all, hl', part, part_set_ge (Nat.le_refl _), lim_set, if_pos ⟨rfl, by omega⟩, h, part_all, part_ge _ Q _ hl]
end Go.Proofs.Ytjapilpjahhimaa

/- Plain numbers for the document's own answers: digits of 16 bits. -/
namespace Go.Proofs.Ytjapilpjahhimaa

/-- a word's four digits of 16 bits -/
def d16 (x : Nat) : List Nat := [x % 65536, x / 65536 % 65536, x / 65536 / 65536 % 65536, x / 65536 / 65536 / 65536 % 65536]
def of16 (xs : List Nat) : List Nat := xs.flatMap d16
theorem d16_length (x : Nat) : (d16 x).length = 4 := rfl
theorem of16_length (xs : List Nat) : (of16 xs).length = 4 * xs.length := by
  induction xs with
  | nil => rfl
  | cons x r ih => simp only [of16, List.flatMap_cons, List.length_append, d16_length, List.length_cons] at ih ⊢; omega
theorem of16_snoc (xs : List Nat) (x : Nat) : of16 (xs ++ [x]) = of16 xs ++ d16 x := by simp [of16]
theorem d16_low (x : Nat) : Low 65536 (d16 x) := by
  intro y hy
  simp [d16] at hy
  omega
theorem of16_low (xs : List Nat) : Low 65536 (of16 xs) := by
  intro y hy
  obtain ⟨x, _, h⟩ := List.mem_flatMap.1 hy
  exact d16_low x y h
theorem d16_val {x : Nat} (hx : x < 18446744073709551616) : val 65536 (d16 x) = x := by
  simp only [d16, val]
  omega
theorem of16_val {xs : List Nat} (h : Low 18446744073709551616 xs) : val 65536 (of16 xs) = val 18446744073709551616 xs := by
  induction xs with
  | nil => rfl
  | cons x r ih =>
    have h1 := ih fun y hy => h y (List.mem_cons_of_mem _ hy)
    have h2 := d16_val (h x (List.mem_cons_self ..))
    show val 65536 (d16 x ++ of16 r) = _
    rw [val_append, h1, h2, d16_length, val]
/-- what is cut off at the end -/
theorem cutz_at {xs : List Nat} {k : Nat} (hk : k ≤ xs.length) (hz : ∀ j, k ≤ j → j < xs.length → lim xs j = 0) (ht : k = 0 ∨ lim xs (k - 1) ≠ 0) : cutz xs = xs.take k := by
  rcases ht with rfl | ht
  · rw [cutz_none fun j hj => hz j (Nat.zero_le _) hj]; rfl
  · rcases Nat.eq_zero_or_pos k with rfl | h0
    · rw [cutz_none fun j hj => hz j (Nat.zero_le _) hj]; rfl
    · have := cutz_take (xs := xs) (i := k - 1) (by omega) ht fun j h1 h2 => hz j (by omega) h2
      rwa [Nat.sub_add_cancel h0] at this
theorem take_snoc {xs : List Nat} {i : Nat} (h : i < xs.length) : xs.take (i + 1) = xs.take i ++ [lim xs i] := by
  rw [List.take_succ_eq_append_getElem h]; unfold lim; rw [List.getElem?_eq_getElem h]; rfl
theorem d16_take (x k : Nat) (hk : k < 4) : (d16 x).take (k + 1) = (d16 x).take k ++ [x / 65536 ^ k % 65536] := by
  have : k = 0 ∨ k = 1 ∨ k = 2 ∨ k = 3 := by omega
  rcases this with rfl | rfl | rfl | rfl <;> simp [d16, Nat.div_div_eq_div_mul]
end Go.Proofs.Ytjapilpjahhimaa

/- The program's two iterators over a list of words: from the lowest place up, from the highest down. Each hands over every place and its word, in order, to whatever loop body leaves the list's memory as it lay. -/
namespace Go.Proofs.Ytjapilpjahhimaa
open Go.RowKit Go.Shelf

attribute [local go_sem] Oper.semAt_some

/-- the places of a list of n words -/
abbrev Pl (n : Nat) := { j : Nat // j < n }
abbrev encU (zs : List Nat) (x : Pl zs.length) : Array Value := #[.int .i64 (x.1 : Int), .int .u64 (lim zs x.1 : Int)]

/-- two blocks are as they were -/
def Keep (b c : Nat) (W W' : World) : Prop := W'.heap[b]? = W.heap[b]? ∧ W'.heap[c]? = W.heap[c]?
theorem Keep.refl (b c : Nat) (W : World) : Keep b c W W := ⟨rfl, rfl⟩
theorem Keep.trans {b c : Nat} {X Y Z : World} (h : Keep b c X Y) (k : Keep b c Y Z) : Keep b c X Z := ⟨k.1.trans h.1, k.2.trans h.2⟩
theorem keep_put {b c : Nat} {w : World} (hb : b < w.heap.size) (hc : c < w.heap.size) (W : World) (l : Nat) (o o' : Obj) (hl : w.heap.size ≤ l) (_ : W.heap[l]? = some o) (_ : o.isCells = false) (_ : o.isWalk = false) : Keep b c W (W.putObj l o') :=
  ⟨World.putObj_heap_other (by omega), World.putObj_heap_other (by omega)⟩
theorem Keep.cell1 {b c : Nat} {W W' : World} (h : Keep b c W W') (o : Nat) : W'.cell? ⟨b, o, none⟩ = W.cell? ⟨b, o, none⟩ := World.cell?_of_block (w := W) h.1
theorem Keep.cell2 {b c : Nat} {W W' : World} (h : Keep b c W W') (o : Nat) : W'.cell? ⟨c, o, none⟩ = W.cell? ⟨c, o, none⟩ := World.cell?_of_block (w := W) h.2


/-- the places of a list of n words, from the highest down: the first k -/
def dn (n k : Nat) : List Nat := (List.range k).map fun j => n - 1 - j
theorem dn_length (n k : Nat) : (dn n k).length = k := by simp [dn]
theorem dn_succ (n k : Nat) : dn n (k + 1) = dn n k ++ [n - 1 - k] := by simp [dn, List.range_succ]


/-- the slice value v reads as the words xs; it lies in block b, or has none -/
def RdAt (b : Nat) (W : World) (v : Value) (xs : List Nat) : Prop :=
  ((∃ a cap, v = .slice a 0 cap) ∧ xs = []) ∨ ∃ off cap, v = .slice (some ⟨b, off, none⟩) xs.length cap ∧ xs.length ≤ cap ∧ ∀ j, j < xs.length → W.cell? ⟨b, off + j, none⟩ = some (.int .u64 (lim xs j : Int))
theorem RdAt.kept {b : Nat} {W W' : World} {v : Value} {xs : List Nat} (h : RdAt b W v xs) (hk : W'.heap[b]? = W.heap[b]?) : RdAt b W' v xs := by
  rcases h with h | ⟨off, cap, e, hl, hc⟩
  · exact .inl h
  · exact .inr ⟨off, cap, e, hl, fun j hj => (World.cell?_of_block (w := W) hk).trans (hc j hj)⟩






end Go.Proofs.Ytjapilpjahhimaa

/- nat.trim: the part of a list of words without zeros at the end, in the list's own memory. -/
namespace Go.Proofs.Ytjapilpjahhimaa
open Go.RowKit Go.Shelf

attribute [local go_sem] Oper.semAt_some

theorem RdAt.slice {b : Nat} {W : World} {v : Value} {xs : List Nat} (h : RdAt b W v xs) : ∃ a cap, v = .slice a xs.length cap ∧ xs.length ≤ cap ∧ (0 < xs.length → ∃ off, a = some ⟨b, off, none⟩) := by
  rcases h with ⟨⟨a, cap, rfl⟩, rfl⟩ | ⟨off, cap, rfl, hl, _⟩
  · exact ⟨a, cap, rfl, Nat.zero_le _, fun h => absurd h (by simp)⟩
  · exact ⟨_, cap, rfl, hl, fun _ => ⟨off, rfl⟩⟩
theorem RdAt.take {b : Nat} {W : World} {xs : List Nat} {off cap k : Nat} (h : RdAt b W (.slice (some ⟨b, off, none⟩) xs.length cap) xs) (hk : k ≤ xs.length) : RdAt b W (.slice (some ⟨b, off, none⟩) k cap) (xs.take k) := by
  rcases h with ⟨_, rfl⟩ | ⟨off', cap', h, hl, hc⟩
  · obtain rfl : k = 0 := by simpa using hk
    exact .inl ⟨⟨_, _, rfl⟩, by simp⟩
  · cases h
    refine .inr ⟨off, cap, by simp [Nat.min_eq_left hk], by simp; omega, fun j hj => ?_⟩
    have hj' : j < k := by simp at hj; omega
    rw [lim_take hj']
    exact hc j (by omega)
theorem RdAt.cell {b : Nat} {W : World} {xs : List Nat} {off m cap j : Nat} (h : RdAt b W (.slice (some ⟨b, off, none⟩) m cap) xs) (hj : j < xs.length) : W.cell? ⟨b, off + j, none⟩ = some (.int .u64 (lim xs j : Int)) := by
  rcases h with ⟨_, rfl⟩ | ⟨off', cap', h, hl, hc⟩
  · exact absurd hj (by simp)
  · cases h; exact hc j hj
/-- what came in the order of 'dn', the last one apart -/
theorem dn_last {n k : Nat} {ini : List (Pl n)} {last : Pl n} (h : (ini ++ [last]).map Subtype.val = dn n k) (hk : k ≤ n) :
    ∃ k', k = k' + 1 ∧ last.1 = n - 1 - k' ∧ ini.map Subtype.val = dn n k' := by
  cases k with
  | zero => have := congrArg List.length h; simp [dn] at this
  | succ k' =>
    rw [dn_succ, List.map_append] at h
    obtain ⟨h1, h2⟩ := List.append_inj' h rfl
    exact ⟨k', rfl, by simpa using h2, h1⟩
theorem dn_mem {n k j : Nat} (h1 : n - k ≤ j) (h2 : j < n) : j ∈ dn n k := by
  simp only [dn, List.mem_map, List.mem_range]
  exact ⟨n - 1 - j, by omega, by omega⟩
theorem mem_of_map {n : Nat} {pre : List (Pl n)} {l : List Nat} (h : pre.map Subtype.val = l) {j : Nat} (hj : j ∈ l) : ∃ p ∈ pre, p.1 = j := by
  rw [← h] at hj
  obtain ⟨p, hp, e⟩ := List.mem_map.1 hj
  exact ⟨p, hp, e⟩

end Go.Proofs.Ytjapilpjahhimaa

/- The small functions: cmp.Compare at two types, nat.limb, math/bits.Add64 and Sub64, and what nat.trim leaves. -/
namespace Go.Proofs.Ytjapilpjahhimaa
open Go.RowKit Go.Shelf

def cmpZ (a b : Int) : Int := if a < b then -1 else if b < a then 1 else 0
theorem cmpZ_nat (a b : Nat) : cmpZ a b = cmpN a b := by
  unfold cmpZ cmpN
  by_cases h1 : a < b
  · simp [h1]
  · by_cases h2 : b < a
    · have : ¬ ((a : Int) < b) := by omega
      simp [h1, h2, this]
    · have : ¬ ((a : Int) < b) := by omega
      have : ¬ ((b : Int) < a) := by omega
      simp [*]
theorem ret_int {k : IntKind} {a b : Int} (h : a = b) : Ending.returned (.int k a) = .returned (.int k b) := by rw [h]



/-- a statement that does not panic, whatever would follow a panic -/
theorem wpIn_calm {F : Fence} {n : Nat} {P : Program} {s : Code} {K : Act → World → Prop} {Q : Exit → Act → World → Prop} {a : Act} {w : World}
    (h : s.wpIn F n P (Exit.then K fun _ _ _ => False) a w) : s.wpIn F n P (Exit.then K Q) a w := by
  refine wpIn_mono h ?_
  intro e a' w' hq
  cases e with
  | normal => exact hq
  | exit id => exact hq.elim
  | goto l => exact hq.elim
  | ret => exact hq.elim
  | panic ch => exact hq.elim
  | outgrown => exact hq.elim
theorem _root_.Go.Boxed.below {W W' : World} {B n : Nat} {t : TypeId} {v : Value} (h : Boxed W B t v) (hb : Below n W W') (hn : B < n) : Boxed W' B t v := (hb.block B hn).trans h
theorem _root_.Go.Boxed.behind {W W' : World} {B : Nat} {t : TypeId} {v : Value} (h : Boxed W B t v) (hb : Below W.heap.size W W') : Boxed W' B t v := h.below hb h.lt
theorem _root_.Go.Boxed.drew {W : World} {B : Nat} {t : TypeId} {v : Value} (h : Boxed W B t v) : Boxed W.drew B t v := h
theorem follows : Try.prog.follows .mixedOrders = true := by kernel_rfl

theorem sub64_run (x y b : Nat) (hb : b ≤ 1) (w : World) :
    (callFunc 123 #[.int .u64 x, .int .u64 y, .int .u64 b]).run Try.prog w =
      .ok (.value (.tuple #[.int .u64 (sub64 x y b : Int), .int .u64 (borrow64 x y b : Int)])) w := by
  rw [run_callFunc_extern Try.func123 (by kernel_rfl) (by kernel_rfl) (by kernel_rfl) (e := sub64Entry) (by kernel_rfl), run_sub64 x y b hb]
  rfl
end Go.Proofs.Ytjapilpjahhimaa

/- nat.Cmp: how two naturals stand. -/
namespace Go.Proofs.Ytjapilpjahhimaa
open Go.RowKit Go.Shelf

attribute [local go_sem] Oper.semAt_some

end Go.Proofs.Ytjapilpjahhimaa

/- A block of words that a call has made: its cells are known whole. -/
namespace Go.Proofs.Ytjapilpjahhimaa
open Go.RowKit Go.Shelf

def cellsOf (k : IntKind) (s : List Nat) : Array Value := (s.map fun (x : Nat) => Value.int k (x : Int)).toArray
/-- block S is just the numbers s, of kind k, of element type t -/
def Row (k : IntKind) (t : TypeId) (W : World) (S : Nat) (s : List Nat) : Prop := W.heap[S]? = some (.cells (cellsOf k s) t (0, 0))
theorem cellsOf_get {k : IntKind} {s : List Nat} {i : Nat} (h : i < s.length) : (cellsOf k s)[i]? = some (.int k (lim s i : Int)) := by
  simp [cellsOf, lim, List.getElem?_eq_getElem h]
theorem cellsOf_set (k : IntKind) (s : List Nat) (i v : Nat) : (cellsOf k s).setIfInBounds i (.int k (v : Int)) = cellsOf k (s.set i v) := by
  simp [cellsOf, List.map_set]
section
variable {k : IntKind} {t : TypeId} {W W' : World} {S : Nat} {s : List Nat}
theorem Row.lt (h : Row k t W S s) : S < W.heap.size := (Array.getElem?_eq_some_iff.1 h).1
theorem Row.cell (h : Row k t W S s) {i : Nat} (hi : i < s.length) : W.cell? ⟨S, i, none⟩ = some (.int k (lim s i : Int)) := by
  rw [cell_of_row W S i _ t (0, 0) h, cellsOf_get hi]
theorem Row.frozen (h : Row k t W S s) (i : Nat) : W.frozen? ⟨S, i, none⟩ = false := by
  simp [World.frozen?, show W.heap[S]? = _ from h]
theorem Row.new (W : World) (k : IntKind) (t : TypeId) (s : List Nat) : Row k t (W.alloc (.cells (cellsOf k s) t)) W.heap.size s := World.alloc_heap_new W _
theorem Row.alloc (h : Row k t W S s) (o : Obj) : Row k t (W.alloc o) S s := (Below.heap_alloc W o S h.lt).trans h
theorem Row.drew (h : Row k t W S s) : Row k t W.drew S s := h
theorem Row.set (h : Row k t W S s) (i v : Nat) : Row k t (W.setCell ⟨S, i, none⟩ (.int k (v : Int))) S (s.set i v) := by
  unfold Row at h ⊢
  simp [World.setCell, Array.getElem?_modify, h, cellsOf_set]
theorem Row.far (h : Row k t W S s) {p : Addr} (hp : S ≠ p.block) (u : Value) : Row k t (W.setCell p u) S s := (Below.heap_setCell W p u S hp).trans h
theorem Row.below {B : Nat} (h : Row k t W S s) (hb : Below B W W') (hg : S < B) : Row k t W' S s := (hb.block S hg).trans h
theorem Row.behind (h : Row k t W S s) (hb : Below W.heap.size W W') : Row k t W' S s := h.below hb h.lt
theorem Row.put (h : Row k t W S s) {D : Nat} (hD : S ≠ D) (o : Obj) : Row k t (W.putObj D o) S s := (World.putObj_heap_other hD).trans h
theorem Row.rd (h : Row .u64 t W S s) (cap : Nat) (hc : s.length ≤ cap) : RdAt S W (.slice (some ⟨S, 0, none⟩) s.length cap) s :=
  .inr ⟨0, cap, rfl, hc, fun j hj => by rw [Nat.zero_add]; exact h.cell hj⟩
end
theorem _root_.Go.Boxed.far {W : World} {B : Nat} {t : TypeId} {v : Value} (h : Boxed W B t v) {p : Addr} (hp : B ≠ p.block) (u : Value) : Boxed (W.setCell p u) B t v := (Below.heap_setCell W p u B hp).trans h
theorem _root_.Go.Boxed.put {W : World} {B : Nat} {t : TypeId} {v : Value} (h : Boxed W B t v) {D : Nat} (hD : B ≠ D) (o : Obj) : Boxed (W.putObj D o) B t v := (World.putObj_heap_other hD).trans h
theorem Keep.set {b c : Nat} {X W : World} (h : Keep b c X W) {p : Addr} (hb : b ≠ p.block) (hc : c ≠ p.block) (u : Value) : Keep b c X (W.setCell p u) :=
  ⟨(Below.heap_setCell W p u b hb).trans h.1, (Below.heap_setCell W p u c hc).trans h.2⟩
theorem Keep.drew {b c : Nat} {X W : World} (h : Keep b c X W) : Keep b c X W.drew := h
theorem row_own {β : Type} (k : IntKind) (t : TypeId) (S : Nat) (f : β → List Nat) : Own (fun s W => Row k t W S (f s)) := fun s X Y row hs hg hrow => by
  refine (hg.block S hs.lt (fun e => ?_)).trans hs
  obtain ⟨o, ho, hc⟩ := hrow S e.symm
  rw [show X.heap[S]? = _ from hs] at ho
  cases ho
  cases hc
theorem made_cells (k : IntKind) (n : Nat) : madeCells #[.int k 0] n = cellsOf k (List.replicate n 0) := by
  apply Array.toList_inj.1
  rw [toList_madeCells_one]
  simp [cellsOf]
theorem info_u64 : (Try.prog.info? 49).map (fun i => (i.zero, i.size, i.bytes)) = some (some (.int .u64 0), 1, 8) := by kernel_rfl
theorem info_int : (Try.prog.info? 3).map (fun i => (i.zero, i.size, i.bytes)) = some (some (.int .i64 0), 1, 8) := by kernel_rfl
/-- make([]uint64, n) -/
theorem make_u64 (n : Nat) (hn : n ≤ 35184372088832) (u : World) : (Instr.makeSlice 22 (.int .i64 (n : Int)) (.int .i64 (n : Int))).run Try.prog u =
    .ok (.slice (some ⟨u.heap.size, 0, none⟩) n n) (u.alloc (.cells (cellsOf .u64 (List.replicate n 0)) 49)) := by
  obtain ⟨i0, hi, hz0, hz1, hz2⟩ := info_parts info_u64
  have h := run_make (P := Try.prog) u 22 49 i0 (.int .u64 0) Try.underlying22 hi hz0 .i64 .i64 n n (by omega) (Int.le_refl _) (by rw [hz2]; omega) (by omega)
  rw [h, hz1]
  simp [Value.cells, made_cells]
end Go.Proofs.Ytjapilpjahhimaa

/- A region that draws its order, inside a round of a range over a function: by the plain calculus of regions, where nothing in it defers. -/
namespace Go.Proofs.Ytjapilpjahhimaa
open Go.RowKit Go.Shelf

def noDefer (ops : Array Oper) : Bool := ops.all fun o => match o.op with | .defer _ => false | _ => true
theorem noDefer_spec {ops : Array Oper} (h : noDefer ops = true) {i : Nat} {o : Oper} (ho : ops[i]? = some o) : ∀ c, o.op ≠ .defer c := by
  intro c hc
  have h2 := (Array.all_eq_true'.1 h) o (Array.mem_of_getElem? ho)
  rw [hc] at h2
  cases h2
theorem rowsIn_of {n : Nat} {P : Program} {row : String} {args : Array Value} {w : World} {R : Value → World → Prop} (h : Rows P row args w R) : RowsIn Fence.wide n P row args w R := by
  intro c cs _
  obtain ⟨v, w', hr, hs⟩ := h c cs
  exact ⟨v, w', hr, (StepsIn.of_steps hs).mono fun m _ => fenced_wide P m⟩
theorem wpOpIn_of {l n : Nat} {P : Program} {ops : Array Oper} {Q : Exit → Act → World → Prop} (hno : ¬ LetsOut Q) (hnd : noDefer ops = true) {i : Nat} {K K' : Act → World → Prop} (hK : ∀ a w, K a w → K' a w) {a : Act} {w : World}
    (h : wpOp P ops Q i K a w) : wpOpIn (Fence.wide.inRound l) n P ops Q i K' a w := by
  unfold wpOp at h
  unfold wpOpIn
  cases ho : ops[i]? with
  | none => simp only [ho] at h ⊢; exact hK _ _ h
  | some o =>
    simp only [ho] at h ⊢
    split
    · rename_i hw
      simp only [hw, if_true] at h
      rcases h with h | h
      · unfold Oper.wp at h
        unfold Oper.wpIn
        refine ⟨fun _ _ => trivial, ?_⟩
        rw [show (o.semAt (Fence.wide.inRound l).round a.eval) = execOp a.eval o from Oper.semAt_some l _ _ (noDefer_spec hnd ho)]
        generalize (execOp a.eval o).run P w = r at h ⊢
        cases r with
        | ok x w' =>
          cases x <;> simp only [Oper.upon, Oper.uponIn] at h ⊢
          case value v => exact hK _ _ h
          case skip => exact hK _ _ h
          case defer d => exact hK _ _ h
          case enter f args =>
            refine ⟨fun h => (by cases h), ?_⟩
            refine CallsIn.inRound l (callsIn_wide.2 (h.mono ?_))
            intro e w'' he
            cases e with
            | returned v => exact hK _ _ he
            | panicked c => exact he
            | outgrown => exact he
          case row row args =>
            refine ⟨fun h => (by cases h), fun c cs hr => ?_⟩
            obtain ⟨v, w'', hr', hs⟩ := rowsIn_of (n := n - 1) h c cs hr
            exact ⟨v, w'', hK _ _ hr', hs⟩
        | halt x w' => cases x <;> simp only [Oper.upon, Oper.uponIn] at h ⊢ <;> exact h
      · exact absurd h.2 hno
    · rename_i hw
      simp only [hw] at h
      exact ⟨fun _ _ => trivial, hK _ _ h⟩
theorem wpAnyIn_of {l n : Nat} {P : Program} {ops : Array Oper} {md : Region.Mode} {Q : Exit → Act → World → Prop} (hno : ¬ LetsOut Q) (hnd : noDefer ops = true) : ∀ (fuel : Nat) (listed : Array Bool) (a : Act) (w : World),
    wpAny P md ops Q fuel listed a w → wpAnyIn (Fence.wide.inRound l) n P md ops Q fuel listed a w
  | 0, _, _, _, h => h
  | fuel + 1, _, _, _, h => ⟨h.1, fun i hi => wpOpIn_of hno hnd (fun a w => wpAnyIn_of hno hnd fuel _ a w) (h.2 i hi)⟩
theorem region_round {l n : Nat} {P : Program} {id : Nat} {ops : Array Oper} {Q : Exit → Act → World → Prop} {a : Act} {w : World} (hm : P.follows .mixedOrders = true) (hnd : noDefer ops = true) (hno : ¬ LetsOut Q)
    (S : World → Prop) (hS : S w.drew) (h : S w.drew → wpAnyH P .any ops Q S ops.size (Array.replicate ops.size false) a w.drew) : (Code.region id ops true).wpIn (Fence.wide.inRound l) n P Q a w :=
  wpIn_region_any hm (wpAnyIn_of hno hnd _ _ _ _ (wpAny_of_held _ _ _ _ (h hS)))
end Go.Proofs.Ytjapilpjahhimaa
