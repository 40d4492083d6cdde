/- What the loops of nat.Add, nat.Sub reckon, place by place: plain numbers. -/
import Derived.Test.YtppbifijgkcpjaaDoorNum
namespace Go.Proofs.YtppbifijgkcpjaaDoor

def runL (f : List Nat × Nat → Nat → List Nat × Nat) (n : Nat) (l : List Nat) : List Nat × Nat := l.foldl f (List.replicate n 0, 0)
theorem runL_nil (f : List Nat × Nat → Nat → List Nat × Nat) (n : Nat) : runL f n [] = (List.replicate n 0, 0) := rfl
theorem runL_snoc (f : List Nat × Nat → Nat → List Nat × Nat) (n : Nat) (l : List Nat) (j : Nat) : runL f n (l ++ [j]) = f (runL f n l) j := by simp [runL]
theorem runL_ind {f : List Nat × Nat → Nat → List Nat × Nat} {n : Nat} (M : List Nat × Nat → Prop) (h0 : M (List.replicate n 0, 0)) (hs : ∀ s j, M s → M (f s j)) (l : List Nat) : M (runL f n l) := by
  unfold runL
  generalize (List.replicate n 0, 0) = s at h0 ⊢
  induction l generalizing s with
  | nil => exact h0
  | cons x r ih => exact ih _ (hs s x h0)
theorem low_set {B : Nat} {s : List Nat} {j v : Nat} (h : Low B s) (hv : v < B) : Low B (s.set j v) := fun x hx => by
  rcases List.mem_or_eq_of_mem_set hx with h1 | h1
  · exact h x h1
  · subst h1; exact hv
theorem low_rep {B n : Nat} (hB : 0 < B) : Low B (List.replicate n 0) := fun x hx => by rw [List.eq_of_mem_replicate hx]; exact hB

def add64 (p q c : Nat) : Nat := (p + q + c) % 18446744073709551616
def carry64 (p q c : Nat) : Nat := (p + q + c) / 18446744073709551616
def sub64 (p q c : Nat) : Nat := (p + 18446744073709551616 - q - c) % 18446744073709551616
def borrow64 (p q c : Nat) : Nat := if p < q + c then 1 else 0
def addStep (P Q : List Nat) (s : List Nat × Nat) (j : Nat) : List Nat × Nat :=
  (s.1.set j (add64 (lim P j) (lim Q j) s.2), carry64 (lim P j) (lim Q j) s.2)
def subStep (P Q : List Nat) (s : List Nat × Nat) (j : Nat) : List Nat × Nat :=
  (s.1.set j (sub64 (lim P j) (lim Q j) s.2), borrow64 (lim P j) (lim Q j) s.2)
def Fine (n : Nat) (s : List Nat × Nat) : Prop := s.1.length = n ∧ s.2 ≤ 1 ∧ Low 18446744073709551616 s.1
theorem fine_zero (n : Nat) : Fine n (List.replicate n 0, 0) := ⟨by simp, Nat.zero_le _, low_rep (by decide)⟩
theorem add_fine {P Q : List Nat} (hP : Low 18446744073709551616 P) (hQ : Low 18446744073709551616 Q) (n : Nat) (l : List Nat) : Fine n (runL (addStep P Q) n l) :=
  runL_ind (Fine n) (fine_zero n) (fun s j ⟨h1, h2, h3⟩ => by
    have hp := lim_lt hP (by decide) j
    have hq := lim_lt hQ (by decide) j
    refine ⟨by simp [addStep, h1], ?_, low_set h3 (Nat.mod_lt _ (by decide))⟩
    simp only [addStep, carry64]
    omega) l
theorem sub_fine (P Q : List Nat) (n : Nat) (l : List Nat) : Fine n (runL (subStep P Q) n l) :=
  runL_ind (Fine n) (fine_zero n) (fun s j ⟨h1, h2, h3⟩ => by
    refine ⟨by simp [subStep, h1], ?_, low_set h3 (Nat.mod_lt _ (by decide))⟩
    simp only [subStep, borrow64]
    split <;> omega) l
theorem add_range {P Q : List Nat} (hP : Low 18446744073709551616 P) (hQ : Low 18446744073709551616 Q) (n : Nat) (k : Nat) (hk : k ≤ n) :
    part 18446744073709551616 (runL (addStep P Q) n (List.range k)).1 k + 18446744073709551616 ^ k * (runL (addStep P Q) n (List.range k)).2 = part 18446744073709551616 P k + part 18446744073709551616 Q k := by
  induction k with
  | zero => simp [part, runL]
  | succ k ih =>
    have hi := ih (by omega)
    obtain ⟨f1, f2, _⟩ := add_fine hP hQ n (List.range k)
    rw [List.range_succ, runL_snoc]
    generalize runL (addStep P Q) n (List.range k) = s at hi f1 f2 ⊢
    simp only [addStep, add64, carry64, part, part_set_ge (Nat.le_refl k), lim_set]
    rw [if_pos ⟨trivial, by omega⟩, Nat.pow_succ]
    have hd : (lim P k + lim Q k + s.2) % 18446744073709551616 + 18446744073709551616 * ((lim P k + lim Q k + s.2) / 18446744073709551616) = lim P k + lim Q k + s.2 := Nat.mod_add_div _ _
    have hm := congrArg (18446744073709551616 ^ k * ·) hd
    simp only [Nat.mul_add, ← Nat.mul_assoc] at hm
    omega
theorem sub_range {P Q : List Nat} (hP : Low 18446744073709551616 P) (hQ : Low 18446744073709551616 Q) (n : Nat) (k : Nat) (hk : k ≤ n) :
    part 18446744073709551616 (runL (subStep P Q) n (List.range k)).1 k + part 18446744073709551616 Q k = part 18446744073709551616 P k + 18446744073709551616 ^ k * (runL (subStep P Q) n (List.range k)).2 := by
  induction k with
  | zero => simp [part, runL]
  | succ k ih =>
    have hi := ih (by omega)
    obtain ⟨f1, f2, _⟩ := sub_fine P Q n (List.range k)
    have hp := lim_lt hP (by decide) k
    have hq := lim_lt hQ (by decide) k
    rw [List.range_succ, runL_snoc]
    generalize runL (subStep P Q) n (List.range k) = s at hi f1 f2 ⊢
    simp only [subStep, sub64, borrow64, part, part_set_ge (Nat.le_refl k), lim_set]
    rw [if_pos ⟨trivial, by omega⟩, Nat.pow_succ]
    have hd : (lim P k + 18446744073709551616 - lim Q k - s.2) % 18446744073709551616 + lim Q k + s.2 = lim P k + 18446744073709551616 * (if lim P k < lim Q k + s.2 then 1 else 0) := by
      split <;> omega
    have hm := congrArg (18446744073709551616 ^ k * ·) hd
    simp only [Nat.mul_add, ← Nat.mul_assoc] at hm
    omega
/-- how far two numbers are apart -/
def dist (a b : Nat) : Nat := a - b + (b - a)
theorem dist_comm (a b : Nat) : dist a b = dist b a := by unfold dist; omega
theorem dist_ge {a b : Nat} (h : b ≤ a) : dist a b = a - b := by unfold dist; omega
theorem sub_all {P Q : List Nat} (hP : Low 18446744073709551616 P) (hQ : Low 18446744073709551616 Q) (hl : Q.length ≤ P.length) (hv : val 18446744073709551616 Q ≤ val 18446744073709551616 P) :
    cutz (runL (subStep P Q) P.length (List.range P.length)).1 = digs 18446744073709551616 (val 18446744073709551616 P - val 18446744073709551616 Q) := by
  have h := sub_range hP hQ P.length P.length (Nat.le_refl _)
  obtain ⟨f1, f2, f3⟩ := sub_fine P Q P.length (List.range P.length)
  generalize runL (subStep P Q) P.length (List.range P.length) = s at h f1 f2 f3 ⊢
  rw [cutz_eq_digs (by decide) f3]
  have h1 : part 18446744073709551616 s.1 P.length = val 18446744073709551616 s.1 := by rw [← f1, part_all]
  have h2 := val_lt f3 (by decide)
  rw [part_all, part_ge _ Q _ hl, h1] at h
  rw [f1] at h2
  have h3 : s.2 = 0 ∨ s.2 = 1 := by omega
  rcases h3 with h3 | h3
  · rw [h3] at h
    congr 1
    omega
  · rw [h3] at h
    omega
theorem add_all {P Q : List Nat} (hP : Low 18446744073709551616 P) (hQ : Low 18446744073709551616 Q) (hl : Q.length ≤ P.length) :
    cutz ((runL (addStep P Q) (P.length + 1) (List.range P.length)).1.set P.length (runL (addStep P Q) (P.length + 1) (List.range P.length)).2) = digs 18446744073709551616 (val 18446744073709551616 P + val 18446744073709551616 Q) := by
  have h := add_range hP hQ (P.length + 1) P.length (by omega)
  obtain ⟨f1, f2, f3⟩ := add_fine hP hQ (P.length + 1) (List.range P.length)
  generalize runL (addStep P Q) (P.length + 1) (List.range P.length) = s at h f1 f2 f3 ⊢
  have hl' : (s.1.set P.length s.2).length = P.length + 1 := by simp [f1]
  rw [cutz_eq_digs (by decide) (low_set f3 (by omega)), ← part_all, hl', part, part_set_ge (Nat.le_refl _), lim_set, if_pos ⟨rfl, by omega⟩, h, part_all, part_ge _ Q _ hl]
end Go.Proofs.YtppbifijgkcpjaaDoor

/- Plain numbers for the document's own answers: digits of 16 bits. -/
namespace Go.Proofs.YtppbifijgkcpjaaDoor

/-- a word's four digits of 16 bits -/
def d16 (x : Nat) : List Nat := [x % 65536, x / 65536 % 65536, x / 65536 / 65536 % 65536, x / 65536 / 65536 / 65536 % 65536]
def of16 (xs : List Nat) : List Nat := xs.flatMap d16
theorem d16_length (x : Nat) : (d16 x).length = 4 := rfl
theorem of16_length (xs : List Nat) : (of16 xs).length = 4 * xs.length := by
  induction xs with
  | nil => rfl
  | cons x r ih => simp only [of16, List.flatMap_cons, List.length_append, d16_length, List.length_cons] at ih ⊢; omega
theorem of16_snoc (xs : List Nat) (x : Nat) : of16 (xs ++ [x]) = of16 xs ++ d16 x := by simp [of16]
theorem d16_low (x : Nat) : Low 65536 (d16 x) := by
  intro y hy
  simp [d16] at hy
  omega
theorem of16_low (xs : List Nat) : Low 65536 (of16 xs) := by
  intro y hy
  obtain ⟨x, _, h⟩ := List.mem_flatMap.1 hy
  exact d16_low x y h
theorem d16_val {x : Nat} (hx : x < 18446744073709551616) : val 65536 (d16 x) = x := by
  simp only [d16, val]
  omega
theorem of16_val {xs : List Nat} (h : Low 18446744073709551616 xs) : val 65536 (of16 xs) = val 18446744073709551616 xs := by
  induction xs with
  | nil => rfl
  | cons x r ih =>
    have h1 := ih fun y hy => h y (List.mem_cons_of_mem _ hy)
    have h2 := d16_val (h x (List.mem_cons_self ..))
    show val 65536 (d16 x ++ of16 r) = _
    rw [val_append, h1, h2, d16_length, val]
/-- what is cut off at the end -/
theorem cutz_at {xs : List Nat} {k : Nat} (hk : k ≤ xs.length) (hz : ∀ j, k ≤ j → j < xs.length → lim xs j = 0) (ht : k = 0 ∨ lim xs (k - 1) ≠ 0) : cutz xs = xs.take k := by
  rcases ht with rfl | ht
  · rw [cutz_none fun j hj => hz j (Nat.zero_le _) hj]; rfl
  · rcases Nat.eq_zero_or_pos k with rfl | h0
    · rw [cutz_none fun j hj => hz j (Nat.zero_le _) hj]; rfl
    · have := cutz_take (xs := xs) (i := k - 1) (by omega) ht fun j h1 h2 => hz j (by omega) h2
      rwa [Nat.sub_add_cancel h0] at this
theorem take_snoc {xs : List Nat} {i : Nat} (h : i < xs.length) : xs.take (i + 1) = xs.take i ++ [lim xs i] := by
  rw [List.take_succ_eq_append_getElem h]; unfold lim; rw [List.getElem?_eq_getElem h]; rfl
theorem d16_take (x k : Nat) (hk : k < 4) : (d16 x).take (k + 1) = (d16 x).take k ++ [x / 65536 ^ k % 65536] := by
  have : k = 0 ∨ k = 1 ∨ k = 2 ∨ k = 3 := by omega
  rcases this with rfl | rfl | rfl | rfl <;> simp [d16, Nat.div_div_eq_div_mul]
end Go.Proofs.YtppbifijgkcpjaaDoor
