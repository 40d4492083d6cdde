/- Matrices: plain lists. No program is named here. -/
import Derived.Test.YtjapilpjahhimaaRefSplit
namespace Go.Proofs.Ytjapilpjahhimaa

/-- may a matrix be, of m words? -/
def mayM (R C : Int) (m : Nat) : Bool := decide (1 ≤ R) && decide (R ≤ 64) && decide (1 ≤ C) && decide (C ≤ 64) && decide ((m : Int) = R * C)
theorem mayM_iff {R C : Int} {m : Nat} : mayM R C m = true ↔ 1 ≤ R ∧ R ≤ 64 ∧ 1 ≤ C ∧ C ≤ 64 ∧ (m : Int) = R * C := by
  simp [mayM, and_assoc]
/-- transposed, row by row -/
def trl (R C : Nat) (xs : List Nat) : List Nat := (List.range (R * C)).map fun k => lim xs (k % R * C + k / R)
theorem trl_length (R C : Nat) (xs : List Nat) : (trl R C xs).length = R * C := by simp [trl]
theorem place_lt {R C i j : Nat} (hi : i < R) (hj : j < C) : j * R + i < R * C := by
  have := Nat.mul_le_mul_right R (show j + 1 ≤ C from hj)
  rw [Nat.add_mul, Nat.one_mul, Nat.mul_comm C R] at this
  omega
theorem trl_lim {R C i j : Nat} (xs : List Nat) (hi : i < R) (hj : j < C) : lim (trl R C xs) (j * R + i) = lim xs (i * C + j) := by
  have hlt := place_lt hi hj
  have hR : 0 < R := by omega
  have e1 : (j * R + i) % R = i := by rw [Nat.mul_comm, Nat.mul_add_mod, Nat.mod_eq_of_lt hi]
  have e2 : (j * R + i) / R = j := by rw [Nat.mul_comm, Nat.mul_add_div hR, Nat.div_eq_of_lt hi, Nat.add_zero]
  unfold trl
  show (((List.range (R * C)).map fun k => lim xs (k % R * C + k / R))[j * R + i]?).getD 0 = _
  rw [List.getElem?_map, List.getElem?_range hlt, Option.map_some, Option.getD_some, e1, e2]
theorem ext_lim {xs ys : List Nat} (h : xs.length = ys.length) (hk : ∀ k, k < xs.length → lim xs k = lim ys k) : xs = ys := by
  apply List.ext_getElem h
  intro k h1 h2
  have := hk k h1
  unfold lim at this
  rwa [List.getElem?_eq_getElem h1, List.getElem?_eq_getElem h2] at this
theorem trl_trl {R C : Nat} {xs : List Nat} (hl : xs.length = R * C) : trl C R (trl R C xs) = xs := by
  refine ext_lim (by rw [trl_length, hl, Nat.mul_comm]) fun k hk => ?_
  rw [trl_length, Nat.mul_comm] at hk
  have hC : 0 < C := by
    rcases Nat.eq_zero_or_pos C with h | h
    · subst h; simp at hk
    · exact h
  have h1 : k / C < R := by rwa [Nat.div_lt_iff_lt_mul hC]
  have h2 : k % C < C := Nat.mod_lt _ hC
  have hk2 : k = k / C * C + k % C := by rw [Nat.mul_comm]; exact (Nat.div_add_mod k C).symm
  have e1 := trl_lim (R := C) (C := R) (i := k % C) (j := k / C) (trl R C xs) h2 h1
  have e2 := trl_lim (R := R) (C := C) (i := k / C) (j := k % C) xs h1 h2
  rw [← hk2] at e1 e2
  rw [e1, e2]
theorem lim_lt_low {xs : List Nat} (h : Low 18446744073709551616 xs) (k : Nat) : lim xs k < 18446744073709551616 := lim_lt h (by decide) k
theorem trl_low {R C : Nat} {xs : List Nat} (h : Low 18446744073709551616 xs) : Low 18446744073709551616 (trl R C xs) := by
  intro y hy
  unfold trl at hy
  rw [List.mem_map] at hy
  obtain ⟨k, _, rfl⟩ := hy
  exact lim_lt_low h _
/-- is every one of the first k words finite, or zero? its error -/
def finU (xs : List Nat) : Nat → Int
  | 0 => 0
  | k + 1 => if 2 ≤ cls (lim xs k) then 12 else finU xs k
theorem finU_two (xs : List Nat) (k : Nat) : finU xs k = 0 ∨ finU xs k = 12 := by
  induction k with
  | zero => exact .inl rfl
  | succ k ih =>
    unfold finU
    split
    · exact .inr rfl
    · exact ih
/-- the first n words of a table of C columns, row by row -/
def pre (C : Nat) (g : Nat → Nat → Nat) (n : Nat) : List Nat := (List.range n).map fun k => g (k / C) (k % C)
def tab (R C : Nat) (g : Nat → Nat → Nat) : List Nat := pre C g (R * C)
theorem pre_length (C : Nat) (g : Nat → Nat → Nat) (n : Nat) : (pre C g n).length = n := by simp [pre]
theorem pre_zero (C : Nat) (g : Nat → Nat → Nat) : pre C g 0 = [] := rfl
theorem pre_snoc {C i j : Nat} (g : Nat → Nat → Nat) (hj : j < C) : pre C g (i * C + j + 1) = pre C g (i * C + j) ++ [g i j] := by
  have hC : 0 < C := by omega
  have e1 : (i * C + j) / C = i := by rw [Nat.mul_comm, Nat.mul_add_div hC, Nat.div_eq_of_lt hj, Nat.add_zero]
  have e2 : (i * C + j) % C = j := by rw [Nat.mul_comm, Nat.mul_add_mod, Nat.mod_eq_of_lt hj]
  unfold pre
  rw [List.range_succ, List.map_append, List.map_singleton, e1, e2]
theorem tab_length (R C : Nat) (g : Nat → Nat → Nat) : (tab R C g).length = R * C := pre_length C g _
theorem tab_lim {R C i j : Nat} (g : Nat → Nat → Nat) (hi : i < R) (hj : j < C) : lim (tab R C g) (i * C + j) = g i j := by
  have hlt : i * C + j < R * C := by
    have := Nat.mul_le_mul_right C (show i + 1 ≤ R from hi)
    rw [Nat.add_mul, Nat.one_mul] at this
    omega
  have hC : 0 < C := by omega
  have e1 : (i * C + j) / C = i := by rw [Nat.mul_comm, Nat.mul_add_div hC, Nat.div_eq_of_lt hj, Nat.add_zero]
  have e2 : (i * C + j) % C = j := by rw [Nat.mul_comm, Nat.mul_add_mod, Nat.mod_eq_of_lt hj]
  unfold tab pre
  show (((List.range (R * C)).map fun k => g (k / C) (k % C))[i * C + j]?).getD 0 = _
  rw [List.getElem?_map, List.getElem?_range hlt, Option.map_some, Option.getD_some, e1, e2]
theorem tab_congr {R C : Nat} {g g' : Nat → Nat → Nat} (h : ∀ i j, i < R → j < C → g i j = g' i j) : tab R C g = tab R C g' := by
  unfold tab pre
  refine List.map_congr_left fun k hk => ?_
  rw [List.mem_range] at hk
  have hC : 0 < C := by
    rcases Nat.eq_zero_or_pos C with e | e
    · subst e; simp at hk
    · exact e
  exact h _ _ (by rwa [Nat.div_lt_iff_lt_mul hC]) (Nat.mod_lt _ hC)
theorem trl_tab (R C : Nat) (xs : List Nat) : trl R C xs = tab C R (fun i j => lim xs (j * C + i)) := by
  unfold trl tab pre
  rw [Nat.mul_comm C R]
/-- may such sides be? -/
def mayS (R C : Int) : Bool := decide (1 ≤ R) && decide (R ≤ 64) && decide (1 ≤ C) && decide (C ≤ 64)
theorem mayS_iff {R C : Int} : mayS R C = true ↔ 1 ≤ R ∧ R ≤ 64 ∧ 1 ≤ C ∧ C ≤ 64 := by simp [mayS, and_assoc]
theorem mayM_mayS (R C : Int) (m : Nat) : mayM R C m = (mayS R C && decide ((m : Int) = R * C)) := rfl
theorem finU_any (xs : List Nat) : finU xs xs.length = if xs.any (fun x => decide (2 ≤ cls x)) then 12 else 0 := by
  have key : ∀ k, k ≤ xs.length → finU xs k = if (xs.take k).any (fun x => decide (2 ≤ cls x)) then 12 else 0 := by
    intro k
    induction k with
    | zero => intro _; simp [finU]
    | succ k ih =>
      intro hk
      have hk' : k < xs.length := by omega
      rw [finU, ih (by omega), List.take_succ_eq_append_getElem hk', List.any_append]
      have e : lim xs k = xs[k] := by unfold lim; rw [List.getElem?_eq_getElem hk']; rfl
      rw [e]
      by_cases h : 2 ≤ cls xs[k]
      · simp [h]
      · simp [h]
  rw [key _ (Nat.le_refl _), List.take_of_length_le (Nat.le_refl _)]
def chkM (R C : Int) (m : Nat) : Int := if mayM R C m then 0 else 11
def finM (R C : Int) (m : Nat) (xs : List Nat) : Int := if mayM R C m then finU xs m else 11
def outM (R C i j : Int) : Bool := decide (i < 0) || decide (R ≤ i) || decide (j < 0) || decide (C ≤ j)
def atM (R C : Int) (m : Nat) (xs : List Nat) (i j : Int) : Nat × Int := if mayM R C m then (if outM R C i j then (0, 4) else (lim xs (i * C + j).toNat, 0)) else (0, 11)
def sameM (R C R' C' : Int) (xs ys : List Nat) : Bool := decide (R = R') && (decide (C = C') && decide (xs = ys))
end Go.Proofs.Ytjapilpjahhimaa
