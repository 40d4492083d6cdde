/- Matrices, number by number: plain lists. No program is named here. -/
import Derived.Test.YtjljmccdlkdgoaaFmNum
import Derived.Test.YtjljmccdlkdgoaaShNum
import Derived.Test.YtjljmccdlkdgoaaOw
import Derived.Test.YtjljmccdlkdgoaaVeSpec
import Derived.Test.YtjljmccdlkdgoaaShMake
namespace Go.Proofs.Ytjljmccdlkdgoaa

def minusU (a b : Nat) : Nat := (rsubt a b 0).1
theorem minusU_lt {a b : Nat} (ha : a ≤ 18446744073709551615) (hb : b ≤ 18446744073709551615) : minusU a b ≤ 18446744073709551615 := by
  unfold minusU rsubt
  split
  · decide
  · exact radd_lt ha (by have := (flip_facts (b := b) (by omega)).1; omega)
/-- two lists, place by place -/
def pairV (op : Nat → Nat → Nat) (xs ys : List Nat) : List Nat := rowV xs.length fun k => op (lim xs k) (lim ys k)
/-- two lists, place by place, the first k places -/
def pairK (op : Nat → Nat → Nat) (xs ys : List Nat) (k : Nat) : List Nat := rowV k fun j => op (lim xs j) (lim ys j)
theorem pairK_length (op : Nat → Nat → Nat) (xs ys : List Nat) (k : Nat) : (pairK op xs ys k).length = k := rowV_length _ _
theorem pairK_succ (op : Nat → Nat → Nat) (xs ys : List Nat) (k : Nat) : pairK op xs ys (k + 1) = pairK op xs ys k ++ [op (lim xs k) (lim ys k)] := rowV_succ _ _
/-- an error, ahead of overflow: of two matrices, and of another thing -/
def firstE (e f g : Int) : Int := if e ≠ 0 then e else if f ≠ 0 then f else g
theorem firstE_ways (e f g : Int) : (e ≠ 0 ∧ firstE e f g = e) ∨ (e = 0 ∧ f ≠ 0 ∧ firstE e f g = f) ∨ (e = 0 ∧ f = 0 ∧ firstE e f g = g) := by
  unfold firstE
  by_cases h : e = 0
  · by_cases h2 : f = 0
    · right; right; exact ⟨h, h2, by rw [if_neg (by simp [h]), if_neg (by simp [h2])]⟩
    · right; left; exact ⟨h, h2, by rw [if_neg (by simp [h]), if_pos h2]⟩
  · left; exact ⟨h, by rw [if_pos h]⟩
def sidesE (R C R' C' : Int) : Int := if R ≠ R' ∨ C ≠ C' then 11 else 0
/-- what stands ahead of overflow of two matrices -/
def pairF (R C : Int) (m : Nat) (xs : List Nat) (R' C' : Int) (m' : Nat) (ys : List Nat) : Int := firstE (finM R C m xs) (finM R' C' m' ys) (sidesE R C R' C')
theorem finM_ok {R C : Int} {m : Nat} {xs : List Nat} (h : finM R C m xs = 0) : mayM R C m = true ∧ finU xs m = 0 := by
  unfold finM at h
  cases hm : mayM R C m
  · rw [hm] at h; simp at h
  · rw [hm] at h; exact ⟨rfl, h⟩
theorem finM_ways (R C : Int) (m : Nat) (xs : List Nat) : finM R C m xs = 0 ∨ finM R C m xs = 11 ∨ finM R C m xs = 12 := by
  unfold finM
  cases mayM R C m
  · right; left; rfl
  · rcases finU_two xs m with h | h
    · left; exact h
    · right; right; exact h
theorem pairF_ok {R C R' C' : Int} {m m' : Nat} {xs ys : List Nat} (h : pairF R C m xs R' C' m' ys = 0) : finM R C m xs = 0 ∧ finM R' C' m' ys = 0 ∧ R = R' ∧ C = C' := by
  unfold pairF at h
  rcases firstE_ways (finM R C m xs) (finM R' C' m' ys) (sidesE R C R' C') with ⟨h1, h2⟩ | ⟨h1, h2, h3⟩ | ⟨h1, h2, h3⟩
  · exact absurd (h2 ▸ h) h1
  · exact absurd (h3 ▸ h) h2
  · rw [h3] at h
    unfold sidesE at h
    by_cases q : R ≠ R' ∨ C ≠ C'
    · rw [if_pos q] at h; exact absurd h (by decide)
    · refine ⟨h1, h2, Classical.byContradiction fun q1 => q (.inl q1), Classical.byContradiction fun q1 => q (.inr q1)⟩
/-- the numbers of a matrix that may be, by its error -/
theorem finU_finB (xs : List Nat) : finU xs xs.length = if finB xs xs.length then 0 else 12 := by
  rw [finU_any, finB_any']
  cases xs.any fun x => decide (2 ≤ cls x) <;> rfl
where
  finB_any' (xs : List Nat) : finB xs xs.length = !(xs.any fun x => decide (2 ≤ cls x)) := by
    cases h : xs.any (fun x => decide (2 ≤ cls x))
    · rw [Bool.not_false, finB_iff]
      intro j hj
      rw [List.any_eq_false] at h
      have := h (lim xs j) (by unfold lim; rw [List.getElem?_eq_getElem hj]; exact List.getElem_mem hj)
      simp only [decide_eq_true_eq] at this
      omega
    · rw [Bool.not_true]
      obtain ⟨x, hx, h2⟩ := List.any_eq_true.1 h
      obtain ⟨j, hj, rfl⟩ := List.getElem_of_mem hx
      refine finB_not hj ?_
      unfold lim
      rw [List.getElem?_eq_getElem hj]
      simpa using h2
theorem finM_may {R C : Int} {ws : List Nat} (h : mayM R C ws.length = true) : finM R C ws.length ws = if finB ws ws.length then 0 else 12 := by
  unfold finM
  rw [h, if_pos rfl, finU_finB]
theorem tellV_ways (ws : List Nat) (f : Int) : (f ≠ 0 ∧ tellV ws f = f) ∨ (f = 0 ∧ finB ws ws.length = true ∧ tellV ws f = 0) ∨ (f = 0 ∧ finB ws ws.length = false ∧ tellV ws f = 13) := by
  unfold tellV
  by_cases h : f = 0
  · right
    subst h
    rw [if_neg (by decide)]
    cases finB ws ws.length
    · right; exact ⟨rfl, rfl, rfl⟩
    · left; exact ⟨rfl, rfl, rfl⟩
  · left; exact ⟨h, by rw [if_pos h]⟩
/-- the words of row i -/
def rowL (xs : List Nat) (C i : Nat) : List Nat := rowV C fun j => lim xs (i * C + j)
theorem rowL_length (xs : List Nat) (C i : Nat) : (rowL xs C i).length = C := rowV_length _ _
theorem rowL_lim {xs : List Nat} {C i j : Nat} (h : j < C) : lim (rowL xs C i) j = lim xs (i * C + j) := rowV_lim _ h
theorem rowL_low {xs : List Nat} (h : Low 18446744073709551616 xs) (C i : Nat) : Low 18446744073709551616 (rowL xs C i) :=
  rowV_low fun j _ => by have := lim_lt h (by decide : 0 < 18446744073709551616) (i * C + j); omega
end Go.Proofs.Ytjljmccdlkdgoaa

/- mat: notFinite, copied, told, rowOf. -/
namespace Go.Proofs.Ytjljmccdlkdgoaa
open Go.RowKit Go.Shelf
theorem OwnK.put3 {k : IntKind} {t : TypeId} {n g : Nat} {W : World} {v : Value} {zs : List Int} (h : OwnK k t n W v zs) (hg : g < n) (x y z : Value) : OwnK k t n (((W.setCell ⟨g, 0, none⟩ x).setCell ⟨g, 1, none⟩ y).setCell ⟨g, 2, none⟩ z) v zs :=
  ((h.far (p := ⟨g, 0, none⟩) hg x).far (p := ⟨g, 1, none⟩) hg y).far (p := ⟨g, 2, none⟩) hg z
end Go.Proofs.Ytjljmccdlkdgoaa
