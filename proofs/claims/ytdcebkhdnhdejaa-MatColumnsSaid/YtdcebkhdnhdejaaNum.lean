/- Plain numbers: lists of digits, the lowest first, and the numbers that they are. No program is named here. -/
namespace Go.Proofs.Ytdcebkhdnhdejaa

def lim (xs : List Nat) (i : Nat) : Nat := xs[i]?.getD 0
def val (B : Nat) : List Nat → Nat
  | [] => 0
  | x :: r => x + B * val B r
def cutz : List Nat → List Nat
  | [] => []
  | x :: r => if cutz r = [] ∧ x = 0 then [] else x :: cutz r
def digs (B n : Nat) : List Nat := if n = 0 ∨ B < 2 then [] else n % B :: digs B (n / B)
termination_by n
decreasing_by exact Nat.div_lt_self (by omega) (by omega)
/-- what the lowest k digits are -/
def part (B : Nat) (xs : List Nat) : Nat → Nat
  | 0 => 0
  | k + 1 => part B xs k + B ^ k * lim xs k
def Low (B : Nat) (xs : List Nat) : Prop := ∀ x ∈ xs, x < B

theorem lim_lt {B : Nat} {xs : List Nat} (h : Low B xs) (hB : 0 < B) (i : Nat) : lim xs i < B := by
  unfold lim
  rcases Nat.lt_or_ge i xs.length with hi | hi
  · rw [List.getElem?_eq_getElem hi]; exact h _ (List.getElem_mem hi)
  · rw [List.getElem?_eq_none hi]; exact hB
theorem lim_ge {xs : List Nat} {i : Nat} (h : xs.length ≤ i) : lim xs i = 0 := by unfold lim; rw [List.getElem?_eq_none h]; rfl
theorem lim_cons_zero (x : Nat) (r : List Nat) : lim (x :: r) 0 = x := rfl
theorem lim_cons_succ (x : Nat) (r : List Nat) (i : Nat) : lim (x :: r) (i + 1) = lim r i := rfl
theorem lim_set (xs : List Nat) (j v i : Nat) : lim (xs.set j v) i = if i = j ∧ j < xs.length then v else lim xs i := by
  unfold lim
  rw [List.getElem?_set]
  by_cases h : j = i
  · subst h
    by_cases hl : j < xs.length
    · simp [hl]
    · simp [hl]
  · simp [h, Ne.symm h]
theorem getElem?_lim {xs : List Nat} {i : Nat} (h : i < xs.length) : xs[i]? = some (lim xs i) := by
  unfold lim; rw [List.getElem?_eq_getElem h]; rfl
theorem lim_take {xs : List Nat} {k i : Nat} (h : i < k) : lim (xs.take k) i = lim xs i := by
  unfold lim; rw [List.getElem?_take_of_lt h]
theorem lim_ext {xs ys : List Nat} (hl : xs.length = ys.length) (h : ∀ i, i < xs.length → lim xs i = lim ys i) : xs = ys := by
  apply List.ext_getElem hl
  intro i h1 h2
  have := h i h1
  unfold lim at this
  rwa [List.getElem?_eq_getElem h1, List.getElem?_eq_getElem h2] at this

theorem val_append (B : Nat) (xs ys : List Nat) : val B (xs ++ ys) = val B xs + B ^ xs.length * val B ys := by
  induction xs with
  | nil => simp [val]
  | cons x r ih =>
    simp only [List.cons_append, val, ih, List.length_cons, Nat.pow_succ]
    rw [Nat.mul_add, ← Nat.mul_assoc, Nat.mul_comm B (B ^ r.length)]
    omega
theorem val_zeros (B : Nat) (xs : List Nat) (h : ∀ x ∈ xs, x = 0) : val B xs = 0 := by
  induction xs with
  | nil => rfl
  | cons x r ih =>
    have h1 := h x (List.mem_cons_self ..)
    have h2 := ih fun y hy => h y (List.mem_cons_of_mem _ hy)
    simp [val, h1, h2]
theorem val_lt {B : Nat} {xs : List Nat} (h : Low B xs) (_hB : 0 < B) : val B xs < B ^ xs.length := by
  induction xs with
  | nil => simp [val]
  | cons x r ih =>
    have h1 := h x (List.mem_cons_self ..)
    have h2 := ih fun y hy => h y (List.mem_cons_of_mem _ hy)
    have h3 : B * (val B r + 1) ≤ B * B ^ r.length := Nat.mul_le_mul_left _ h2
    rw [Nat.mul_add] at h3
    simp only [val, List.length_cons, Nat.pow_succ]
    rw [Nat.mul_comm (B ^ r.length) B]
    omega

theorem part_eq_val_take (B : Nat) (xs : List Nat) (k : Nat) (hk : k ≤ xs.length) : part B xs k = val B (xs.take k) := by
  induction k with
  | zero => simp [part, val]
  | succ k ih =>
    have h := ih (by omega)
    have hk' : k < xs.length := by omega
    rw [part, h, List.take_succ_eq_append_getElem hk', val_append]
    simp [val, lim, List.getElem?_eq_getElem hk', Nat.min_eq_left (Nat.le_of_lt hk')]
theorem part_ge (B : Nat) (xs : List Nat) (k : Nat) (hk : xs.length ≤ k) : part B xs k = val B xs := by
  induction k with
  | zero =>
    have : xs = [] := List.eq_nil_of_length_eq_zero (by omega)
    subst this; rfl
  | succ k ih =>
    rcases Nat.lt_or_ge k xs.length with h | h
    · have : k + 1 = xs.length := by omega
      rw [this, part_eq_val_take B xs _ (Nat.le_refl _), List.take_of_length_le (Nat.le_refl _)]
    · rw [part, ih h, lim_ge h]; simp
theorem part_all (B : Nat) (xs : List Nat) : part B xs xs.length = val B xs := part_ge B xs _ (Nat.le_refl _)
theorem part_lt {B : Nat} {xs : List Nat} (h : Low B xs) (hB : 0 < B) (k : Nat) : part B xs k < B ^ k := by
  induction k with
  | zero => simp [part]
  | succ k ih =>
    have h1 := lim_lt h hB k
    have h3 : B ^ k * (lim xs k + 1) ≤ B ^ k * B := Nat.mul_le_mul_left _ h1
    rw [Nat.mul_add] at h3
    rw [part, Nat.pow_succ]
    omega
theorem part_congr {B : Nat} {xs ys : List Nat} {k : Nat} (h : ∀ i, i < k → lim xs i = lim ys i) : part B xs k = part B ys k := by
  induction k with
  | zero => rfl
  | succ k ih => rw [part, part, ih fun i hi => h i (by omega), h k (by omega)]
theorem part_set_ge {B : Nat} {xs : List Nat} {j v k : Nat} (h : k ≤ j) : part B (xs.set j v) k = part B xs k :=
  part_congr fun i hi => by rw [lim_set, if_neg (by omega)]

theorem cutz_nil : cutz [] = [] := rfl
theorem cutz_zeros {r : List Nat} (h : ∀ x ∈ r, x = 0) : cutz r = [] := by
  induction r with
  | nil => rfl
  | cons x r ih =>
    have h1 := h x (List.mem_cons_self ..)
    have h2 := ih fun y hy => h y (List.mem_cons_of_mem _ hy)
    simp [cutz, h1, h2]
theorem cutz_app_zeros {xs r : List Nat} (h : ∀ x ∈ r, x = 0) : cutz (xs ++ r) = cutz xs := by
  induction xs with
  | nil => simp [cutz_zeros h, cutz]
  | cons x s ih => simp only [List.cons_append, cutz, ih]
theorem cutz_snoc {xs : List Nat} {x : Nat} (h : x ≠ 0) : cutz (xs ++ [x]) = xs ++ [x] := by
  induction xs with
  | nil => simp [cutz, h]
  | cons y s ih => simp only [List.cons_append, cutz, ih]; simp
theorem cutz_take {xs : List Nat} {i : Nat} (hi : i < xs.length) (h : lim xs i ≠ 0) (hz : ∀ j, i < j → j < xs.length → lim xs j = 0) : cutz xs = xs.take (i + 1) := by
  have e : xs = xs.take (i + 1) ++ xs.drop (i + 1) := (List.take_append_drop _ _).symm
  have hd : ∀ x ∈ xs.drop (i + 1), x = 0 := by
    intro x hx
    obtain ⟨j, hj, rfl⟩ := List.getElem_of_mem hx
    have hl : i + 1 + j < xs.length := by rw [List.length_drop] at hj; omega
    have := hz (i + 1 + j) (by omega) hl
    rw [List.getElem_drop]
    unfold lim at this
    rwa [List.getElem?_eq_getElem hl] at this
  have ht : xs.take (i + 1) = xs.take i ++ [lim xs i] := by
    rw [List.take_succ_eq_append_getElem hi]; unfold lim; rw [List.getElem?_eq_getElem hi]; rfl
  calc cutz xs = cutz (xs.take (i + 1) ++ xs.drop (i + 1)) := by rw [← e]
    _ = cutz (xs.take (i + 1)) := cutz_app_zeros hd
    _ = xs.take (i + 1) := by rw [ht, cutz_snoc h]
theorem cutz_none {xs : List Nat} (hz : ∀ j, j < xs.length → lim xs j = 0) : cutz xs = [] := by
  apply cutz_zeros
  intro x hx
  obtain ⟨j, hj, rfl⟩ := List.getElem_of_mem hx
  have := hz j hj
  unfold lim at this
  rwa [List.getElem?_eq_getElem hj] at this
theorem cutz_mem {xs : List Nat} {x : Nat} (h : x ∈ cutz xs) : x ∈ xs := by
  induction xs with
  | nil => exact h
  | cons y r ih =>
    rw [cutz] at h
    split at h
    · cases h
    · rcases List.mem_cons.1 h with e | e
      · subst e; exact List.mem_cons_self ..
      · exact List.mem_cons_of_mem _ (ih e)
theorem cutz_low {B : Nat} {xs : List Nat} (h : Low B xs) : Low B (cutz xs) := fun x hx => h x (cutz_mem hx)
theorem cutz_length (xs : List Nat) : (cutz xs).length ≤ xs.length := by
  induction xs with
  | nil => simp [cutz]
  | cons y r ih => rw [cutz]; split <;> simp <;> omega
theorem cutz_cutz (xs : List Nat) : cutz (cutz xs) = cutz xs := by
  induction xs with
  | nil => rfl
  | cons y r ih =>
    rw [cutz]
    split
    · rfl
    · rename_i h
      rw [cutz, ih, if_neg h]
theorem val_cutz (B : Nat) (xs : List Nat) : val B (cutz xs) = val B xs := by
  induction xs with
  | nil => rfl
  | cons y r ih =>
    rw [cutz]
    split
    · rename_i h
      rw [h.1] at ih
      simp only [val] at ih ⊢
      rw [← ih, h.2]; simp
    · rw [val, val, ih]
theorem digs_zero (B : Nat) : digs B 0 = [] := by rw [digs]; simp
theorem digs_pos {B n : Nat} (hB : 1 < B) (hn : n ≠ 0) : digs B n = n % B :: digs B (n / B) := by rw [digs, if_neg (by omega)]
theorem digs_val {B : Nat} {xs : List Nat} (hB : 1 < B) (h : Low B xs) : digs B (val B xs) = cutz xs := by
  induction xs with
  | nil => simp [val, digs_zero, cutz]
  | cons x r ih =>
    have h1 := h x (List.mem_cons_self ..)
    have h2 := ih fun y hy => h y (List.mem_cons_of_mem _ hy)
    rw [cutz, ← h2]
    by_cases hz : val B r = 0
    · rw [hz, digs_zero]
      by_cases hx : x = 0
      · simp [val, hz, hx, digs_zero]
      · rw [if_neg (by simp [hx]), val, hz, digs_pos hB (by omega)]
        simp [Nat.mod_eq_of_lt h1, Nat.div_eq_of_lt h1, digs_zero]
    · have hne : digs B (val B r) ≠ [] := by rw [digs_pos hB hz]; simp
      have hp : 0 < B * val B r := Nat.mul_pos (by omega) (by omega)
      rw [if_neg (by simp [hne]), val, digs_pos hB (by omega), Nat.add_mul_mod_self_left, Nat.mod_eq_of_lt h1, Nat.add_mul_div_left _ _ (by omega), Nat.div_eq_of_lt h1, Nat.zero_add]
theorem val_digs {B : Nat} (hB : 1 < B) (n : Nat) : val B (digs B n) = n := by
  induction n using Nat.strongRecOn with
  | _ n ih =>
    by_cases hn : n = 0
    · subst hn; rw [digs_zero]; rfl
    · rw [digs_pos hB hn, val, ih _ (Nat.div_lt_self (by omega) hB)]
      exact Nat.mod_add_div n B
theorem digs_low {B : Nat} (hB : 1 < B) (n : Nat) : Low B (digs B n) := by
  induction n using Nat.strongRecOn with
  | _ n ih =>
    by_cases hn : n = 0
    · subst hn; rw [digs_zero]; intro x hx; cases hx
    · rw [digs_pos hB hn]
      intro x hx
      rcases List.mem_cons.1 hx with e | e
      · subst e; exact Nat.mod_lt _ (by omega)
      · exact ih _ (Nat.div_lt_self (by omega) hB) x e
theorem cutz_digs {B : Nat} (hB : 1 < B) (n : Nat) : cutz (digs B n) = digs B n := by
  rw [← digs_val hB (digs_low hB n), val_digs hB]
theorem cutz_eq_digs {B : Nat} {xs : List Nat} (hB : 1 < B) (h : Low B xs) : cutz xs = digs B (val B xs) := (digs_val hB h).symm
/-- the greatest digit is not 0 -/
theorem cutz_top {xs : List Nat} (h : cutz xs = xs) (hne : xs ≠ []) : lim xs (xs.length - 1) ≠ 0 := by
  intro h0
  have hl : 0 < xs.length := List.length_pos_iff.2 hne
  have e : xs = xs.take (xs.length - 1) ++ [lim xs (xs.length - 1)] := by
    have := List.take_succ_eq_append_getElem (l := xs) (i := xs.length - 1) (by omega)
    rw [Nat.sub_add_cancel (by omega), List.take_of_length_le (Nat.le_refl _)] at this
    unfold lim
    rw [List.getElem?_eq_getElem (by omega)]
    exact this
  have h2 : (cutz xs).length ≤ xs.length - 1 := by
    rw [e, cutz_app_zeros (r := [lim xs (xs.length - 1)]) (by simp [h0])]
    have := cutz_length (xs.take (xs.length - 1))
    have h3 := List.length_take_le (xs.length - 1) xs
    simp only [List.length_append, List.length_take, List.length_cons, List.length_nil]
    omega
  rw [h] at h2
  omega
theorem low_length_le {B : Nat} {xs ys : List Nat} (hB : 1 < B) (hx : Low B xs) (hy : cutz ys = ys) (h : val B ys ≤ val B xs) : ys.length ≤ xs.length := by
  by_cases hne : ys = []
  · subst hne; simp
  · have h1 := cutz_top hy hne
    have hl : 0 < ys.length := List.length_pos_iff.2 hne
    have h2 := val_lt hx (by omega)
    have h3 : B ^ (ys.length - 1) ≤ val B ys := by
      rw [← part_all, show ys.length = ys.length - 1 + 1 by omega, part]
      have : B ^ (ys.length - 1) * 1 ≤ B ^ (ys.length - 1) * lim ys (ys.length - 1) := Nat.mul_le_mul_left _ (by omega)
      simp only [Nat.add_sub_cancel] at *
      omega
    have h4 : B ^ (ys.length - 1) < B ^ xs.length := by omega
    have h5 : ys.length - 1 < xs.length := (Nat.pow_lt_pow_iff_right hB).1 h4
    omega
theorem low_length_lt {B : Nat} {xs ys : List Nat} (hB : 1 < B) (hx : Low B xs) (hy : cutz ys = ys) (h : xs.length < ys.length) : val B xs < val B ys := by
  rcases Nat.lt_or_ge (val B xs) (val B ys) with h1 | h1
  · exact h1
  · have := low_length_le hB hx hy h1; omega

/-- how two numbers stand -/
def cmpN (a b : Nat) : Int := if a < b then -1 else if b < a then 1 else 0
theorem cmpN_self (a : Nat) : cmpN a a = 0 := by simp [cmpN]
theorem cmpN_lt {a b : Nat} (h : a < b) : cmpN a b = -1 := by simp [cmpN, h]
theorem cmpN_gt {a b : Nat} (h : b < a) : cmpN a b = 1 := by simp [cmpN, h]; omega
/-- two lists of one length that are the same above place i: place i decides -/
theorem val_lt_at {B : Nat} {xs ys : List Nat} (hB : 1 < B) (hx : Low B xs) (_hy : Low B ys) (hl : xs.length = ys.length) {i : Nat} (hi : i < xs.length)
    (hs : ∀ j, i < j → j < xs.length → lim xs j = lim ys j) (h : lim xs i < lim ys i) : val B xs < val B ys := by
  have key : ∀ k, i < k → k ≤ xs.length → part B xs k < part B ys k := by
    intro k hk hkl
    induction k with
    | zero => omega
    | succ k ih =>
      rcases Nat.lt_or_ge i k with h1 | h1
      · have := ih h1 (by omega)
        rw [part, part, hs k h1 (by omega)]
        omega
      · obtain rfl : k = i := by omega
        have h2 := part_lt hx (by omega) k
        have h3 : B ^ k * (lim xs k + 1) ≤ B ^ k * lim ys k := Nat.mul_le_mul_left _ h
        rw [Nat.mul_add] at h3
        rw [part, part]
        omega
  have := key xs.length hi (Nat.le_refl _)
  rw [part_all, hl, part_all] at this
  exact this
theorem val_split {B : Nat} {s : List Nat} {j : Nat} (hj : j ≤ s.length) : val B s = part B s j + B ^ j * val B (s.drop j) := by
  have e : s = s.take j ++ s.drop j := (List.take_append_drop _ _).symm
  have h := val_append B (s.take j) (s.drop j)
  rw [← e, List.length_take, Nat.min_eq_left hj] at h
  rw [h, part_eq_val_take B s j hj]
end Go.Proofs.Ytdcebkhdnhdejaa

/- What the loops of nat.Add, nat.Sub reckon, place by place: plain numbers. -/
namespace Go.Proofs.Ytdcebkhdnhdejaa

def runL (f : List Nat × Nat → Nat → List Nat × Nat) (n : Nat) (l : List Nat) : List Nat × Nat := l.foldl f (List.replicate n 0, 0)
theorem runL_nil (f : List Nat × Nat → Nat → List Nat × Nat) (n : Nat) : runL f n [] = (List.replicate n 0, 0) := rfl
theorem runL_snoc (f : List Nat × Nat → Nat → List Nat × Nat) (n : Nat) (l : List Nat) (j : Nat) : runL f n (l ++ [j]) = f (runL f n l) j := by simp [runL]
theorem runL_ind {f : List Nat × Nat → Nat → List Nat × Nat} {n : Nat} (M : List Nat × Nat → Prop) (h0 : M (List.replicate n 0, 0)) (hs : ∀ s j, M s → M (f s j)) (l : List Nat) : M (runL f n l) := by
  unfold runL
  generalize (List.replicate n 0, 0) = s at h0 ⊢
  induction l generalizing s with
  | nil => exact h0
  | cons x r ih => exact ih _ (hs s x h0)
theorem low_set {B : Nat} {s : List Nat} {j v : Nat} (h : Low B s) (hv : v < B) : Low B (s.set j v) := fun x hx => by
  rcases List.mem_or_eq_of_mem_set hx with h1 | h1
  · exact h x h1
  · subst h1; exact hv
theorem low_rep {B n : Nat} (hB : 0 < B) : Low B (List.replicate n 0) := fun x hx => by rw [List.eq_of_mem_replicate hx]; exact hB

def add64 (p q c : Nat) : Nat := (p + q + c) % 18446744073709551616
def carry64 (p q c : Nat) : Nat := (p + q + c) / 18446744073709551616
def sub64 (p q c : Nat) : Nat := (p + 18446744073709551616 - q - c) % 18446744073709551616
def borrow64 (p q c : Nat) : Nat := if p < q + c then 1 else 0
def addStep (P Q : List Nat) (s : List Nat × Nat) (j : Nat) : List Nat × Nat :=
  (s.1.set j (add64 (lim P j) (lim Q j) s.2), carry64 (lim P j) (lim Q j) s.2)
def subStep (P Q : List Nat) (s : List Nat × Nat) (j : Nat) : List Nat × Nat :=
  (s.1.set j (sub64 (lim P j) (lim Q j) s.2), borrow64 (lim P j) (lim Q j) s.2)
def Fine (n : Nat) (s : List Nat × Nat) : Prop := s.1.length = n ∧ s.2 ≤ 1 ∧ Low 18446744073709551616 s.1
theorem fine_zero (n : Nat) : Fine n (List.replicate n 0, 0) := ⟨by simp, Nat.zero_le _, low_rep (by decide)⟩
theorem add_fine {P Q : List Nat} (hP : Low 18446744073709551616 P) (hQ : Low 18446744073709551616 Q) (n : Nat) (l : List Nat) : Fine n (runL (addStep P Q) n l) :=
  runL_ind (Fine n) (fine_zero n) (fun s j ⟨h1, h2, h3⟩ => by
    have hp := lim_lt hP (by decide) j
    have hq := lim_lt hQ (by decide) j
    refine ⟨by simp [addStep, h1], ?_, low_set h3 (Nat.mod_lt _ (by decide))⟩
    simp only [addStep, carry64]
    omega) l
theorem sub_fine (P Q : List Nat) (n : Nat) (l : List Nat) : Fine n (runL (subStep P Q) n l) :=
  runL_ind (Fine n) (fine_zero n) (fun s j ⟨h1, h2, h3⟩ => by
    refine ⟨by simp [subStep, h1], ?_, low_set h3 (Nat.mod_lt _ (by decide))⟩
    simp only [subStep, borrow64]
    split <;> omega) l
theorem add_range {P Q : List Nat} (hP : Low 18446744073709551616 P) (hQ : Low 18446744073709551616 Q) (n : Nat) (k : Nat) (hk : k ≤ n) :
    part 18446744073709551616 (runL (addStep P Q) n (List.range k)).1 k + 18446744073709551616 ^ k * (runL (addStep P Q) n (List.range k)).2 = part 18446744073709551616 P k + part 18446744073709551616 Q k := by
  induction k with
  | zero => simp [part, runL]
  | succ k ih =>
    have hi := ih (by omega)
    obtain ⟨f1, f2, _⟩ := add_fine hP hQ n (List.range k)
    rw [List.range_succ, runL_snoc]
    generalize runL (addStep P Q) n (List.range k) = s at hi f1 f2 ⊢
    simp only [addStep, add64, carry64, part, part_set_ge (Nat.le_refl k), lim_set]
    rw [if_pos ⟨trivial, by omega⟩, Nat.pow_succ]
    have hd : (lim P k + lim Q k + s.2) % 18446744073709551616 + 18446744073709551616 * ((lim P k + lim Q k + s.2) / 18446744073709551616) = lim P k + lim Q k + s.2 := Nat.mod_add_div _ _
    have hm := congrArg (18446744073709551616 ^ k * ·) hd
    simp only [Nat.mul_add, ← Nat.mul_assoc] at hm
    omega
theorem sub_range {P Q : List Nat} (hP : Low 18446744073709551616 P) (hQ : Low 18446744073709551616 Q) (n : Nat) (k : Nat) (hk : k ≤ n) :
    part 18446744073709551616 (runL (subStep P Q) n (List.range k)).1 k + part 18446744073709551616 Q k = part 18446744073709551616 P k + 18446744073709551616 ^ k * (runL (subStep P Q) n (List.range k)).2 := by
  induction k with
  | zero => simp [part, runL]
  | succ k ih =>
    have hi := ih (by omega)
    obtain ⟨f1, f2, _⟩ := sub_fine P Q n (List.range k)
    have hp := lim_lt hP (by decide) k
    have hq := lim_lt hQ (by decide) k
    rw [List.range_succ, runL_snoc]
    generalize runL (subStep P Q) n (List.range k) = s at hi f1 f2 ⊢
    simp only [subStep, sub64, borrow64, part, part_set_ge (Nat.le_refl k), lim_set]
    rw [if_pos ⟨trivial, by omega⟩, Nat.pow_succ]
    have hd : (lim P k + 18446744073709551616 - lim Q k - s.2) % 18446744073709551616 + lim Q k + s.2 = lim P k + 18446744073709551616 * (if lim P k < lim Q k + s.2 then 1 else 0) := by
      split <;> omega
    have hm := congrArg (18446744073709551616 ^ k * ·) hd
    simp only [Nat.mul_add, ← Nat.mul_assoc] at hm
    omega
/-- how far two numbers are apart -/
def dist (a b : Nat) : Nat := a - b + (b - a)
theorem dist_comm (a b : Nat) : dist a b = dist b a := by unfold dist; omega
theorem dist_ge {a b : Nat} (h : b ≤ a) : dist a b = a - b := by unfold dist; omega
theorem sub_all {P Q : List Nat} (hP : Low 18446744073709551616 P) (hQ : Low 18446744073709551616 Q) (hl : Q.length ≤ P.length) (hv : val 18446744073709551616 Q ≤ val 18446744073709551616 P) :
    cutz (runL (subStep P Q) P.length (List.range P.length)).1 = digs 18446744073709551616 (val 18446744073709551616 P - val 18446744073709551616 Q) := by
  have h := sub_range hP hQ P.length P.length (Nat.le_refl _)
  obtain ⟨f1, f2, f3⟩ := sub_fine P Q P.length (List.range P.length)
  generalize runL (subStep P Q) P.length (List.range P.length) = s at h f1 f2 f3 ⊢
  rw [cutz_eq_digs (by decide) f3]
  have h1 : part 18446744073709551616 s.1 P.length = val 18446744073709551616 s.1 := by rw [← f1, part_all]
  have h2 := val_lt f3 (by decide)
  rw [part_all, part_ge _ Q _ hl, h1] at h
  rw [f1] at h2
  have h3 : s.2 = 0 ∨ s.2 = 1 := by omega
  rcases h3 with h3 | h3
  · rw [h3] at h
    congr 1
    omega
  · rw [h3] at h
    omega
theorem add_all {P Q : List Nat} (hP : Low 18446744073709551616 P) (hQ : Low 18446744073709551616 Q) (hl : Q.length ≤ P.length) :
    cutz ((runL (addStep P Q) (P.length + 1) (List.range P.length)).1.set P.length (runL (addStep P Q) (P.length + 1) (List.range P.length)).2) = digs 18446744073709551616 (val 18446744073709551616 P + val 18446744073709551616 Q) := by
  have h := add_range hP hQ (P.length + 1) P.length (by omega)
  obtain ⟨f1, f2, f3⟩ := add_fine hP hQ (P.length + 1) (List.range P.length)
  generalize runL (addStep P Q) (P.length + 1) (List.range P.length) = s at h f1 f2 f3 ⊢
  have hl' : (s.1.set P.length s.2).length = P.length + 1 := by simp [f1]
  rw [cutz_eq_digs (by decide) (low_set f3 (by omega)), ← part_all, hl', part, part_set_ge (Nat.le_refl _), lim_set, if_pos ⟨rfl, by omega⟩, h, part_all, part_ge _ Q _ hl]
end Go.Proofs.Ytdcebkhdnhdejaa

/- Plain numbers for the document's own answers: digits of 16 bits. -/
namespace Go.Proofs.Ytdcebkhdnhdejaa

/-- a word's four digits of 16 bits -/
def d16 (x : Nat) : List Nat := [x % 65536, x / 65536 % 65536, x / 65536 / 65536 % 65536, x / 65536 / 65536 / 65536 % 65536]
def of16 (xs : List Nat) : List Nat := xs.flatMap d16
theorem d16_length (x : Nat) : (d16 x).length = 4 := rfl
theorem of16_length (xs : List Nat) : (of16 xs).length = 4 * xs.length := by
  induction xs with
  | nil => rfl
  | cons x r ih => simp only [of16, List.flatMap_cons, List.length_append, d16_length, List.length_cons] at ih ⊢; omega
theorem of16_snoc (xs : List Nat) (x : Nat) : of16 (xs ++ [x]) = of16 xs ++ d16 x := by simp [of16]
theorem d16_low (x : Nat) : Low 65536 (d16 x) := by
  intro y hy
  simp [d16] at hy
  omega
theorem of16_low (xs : List Nat) : Low 65536 (of16 xs) := by
  intro y hy
  obtain ⟨x, _, h⟩ := List.mem_flatMap.1 hy
  exact d16_low x y h
theorem d16_val {x : Nat} (hx : x < 18446744073709551616) : val 65536 (d16 x) = x := by
  simp only [d16, val]
  omega
theorem of16_val {xs : List Nat} (h : Low 18446744073709551616 xs) : val 65536 (of16 xs) = val 18446744073709551616 xs := by
  induction xs with
  | nil => rfl
  | cons x r ih =>
    have h1 := ih fun y hy => h y (List.mem_cons_of_mem _ hy)
    have h2 := d16_val (h x (List.mem_cons_self ..))
    show val 65536 (d16 x ++ of16 r) = _
    rw [val_append, h1, h2, d16_length, val]
/-- what is cut off at the end -/
theorem cutz_at {xs : List Nat} {k : Nat} (hk : k ≤ xs.length) (hz : ∀ j, k ≤ j → j < xs.length → lim xs j = 0) (ht : k = 0 ∨ lim xs (k - 1) ≠ 0) : cutz xs = xs.take k := by
  rcases ht with rfl | ht
  · rw [cutz_none fun j hj => hz j (Nat.zero_le _) hj]; rfl
  · rcases Nat.eq_zero_or_pos k with rfl | h0
    · rw [cutz_none fun j hj => hz j (Nat.zero_le _) hj]; rfl
    · have := cutz_take (xs := xs) (i := k - 1) (by omega) ht fun j h1 h2 => hz j (by omega) h2
      rwa [Nat.sub_add_cancel h0] at this
theorem take_snoc {xs : List Nat} {i : Nat} (h : i < xs.length) : xs.take (i + 1) = xs.take i ++ [lim xs i] := by
  rw [List.take_succ_eq_append_getElem h]; unfold lim; rw [List.getElem?_eq_getElem h]; rfl
theorem d16_take (x k : Nat) (hk : k < 4) : (d16 x).take (k + 1) = (d16 x).take k ++ [x / 65536 ^ k % 65536] := by
  have : k = 0 ∨ k = 1 ∨ k = 2 ∨ k = 3 := by omega
  rcases this with rfl | rfl | rfl | rfl <;> simp [d16, Nat.div_div_eq_div_mul]
end Go.Proofs.Ytdcebkhdnhdejaa
