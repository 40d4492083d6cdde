/- Permutations' signs: plain lists. No program is named here. -/
import Derived.Test.YtgppbimbampenaaNum
namespace Go.Proofs.Ytgppbimbampenaa

/-- of x and each one of a list -/
def xr (F : Nat → Nat → Bool) (x : Nat) : List Nat → Bool
  | [] => false
  | y :: l => F x y != xr F x l
/-- of each pair of a list, the first one ahead -/
def xp (F : Nat → Nat → Bool) : List Nat → Bool
  | [] => false
  | x :: l => xr F x l != xp F l
theorem bne3 (a b c : Bool) : (a != (b != c)) = (b != (a != c)) := by cases a <;> cases b <;> cases c <;> rfl
theorem bne_self3 (a b : Bool) : (a != (a != b)) = b := by cases a <;> cases b <;> rfl
theorem bne4 (a b c d : Bool) : ((a != b) != (c != d)) = ((a != c) != (b != d)) := by cases a <;> cases b <;> cases c <;> cases d <;> rfl
theorem xr_perm {F : Nat → Nat → Bool} {x : Nat} {l m : List Nat} (h : l.Perm m) : xr F x l = xr F x m := by
  induction h with
  | nil => rfl
  | cons y _ ih => show (F x y != _) = (F x y != _); rw [ih]
  | swap y z l => exact bne3 _ _ _
  | trans _ _ i1 i2 => exact i1.trans i2
/-- where it is the same in both orders, the list's order is of no matter -/
theorem xp_perm {F : Nat → Nat → Bool} {l m : List Nat} (h : l.Perm m) (hs : ∀ x y, x ∈ l → y ∈ l → F x y = F y x) : xp F l = xp F m := by
  induction h with
  | nil => rfl
  | cons y p ih =>
    show (xr F y _ != _) = (xr F y _ != _)
    rw [xr_perm p, ih fun x z hx hz => hs x z (List.mem_cons_of_mem _ hx) (List.mem_cons_of_mem _ hz)]
  | swap y z l =>
    show ((F z y != xr F z l) != (xr F y l != xp F l)) = ((F y z != xr F y l) != (xr F z l != xp F l))
    rw [hs z y (by simp) (by simp)]
    cases F y z <;> cases xr F z l <;> cases xr F y l <;> cases xp F l <;> rfl
  | trans p1 p2 i1 i2 =>
    exact (i1 hs).trans (i2 fun x y hx hy => hs x y (p1.mem_iff.2 hx) (p1.mem_iff.2 hy))
theorem xr_bne (F G : Nat → Nat → Bool) (x : Nat) (l : List Nat) : xr (fun a b => F a b != G a b) x l = (xr F x l != xr G x l) := by
  induction l with
  | nil => rfl
  | cons y l ih =>
    show ((F x y != G x y) != xr _ x l) = ((F x y != xr F x l) != (G x y != xr G x l))
    rw [ih]
    exact bne4 _ _ _ _
theorem xp_bne (F G : Nat → Nat → Bool) (l : List Nat) : xp (fun a b => F a b != G a b) l = (xp F l != xp G l) := by
  induction l with
  | nil => rfl
  | cons x l ih =>
    show (xr _ x l != xp _ l) = ((xr F x l != xp F l) != (xr G x l != xp G l))
    rw [ih, xr_bne]
    exact bne4 _ _ _ _
theorem xr_map (F : Nat → Nat → Bool) (p : Nat → Nat) (x : Nat) (l : List Nat) : xr F (p x) (l.map p) = xr (fun a b => F (p a) (p b)) x l := by
  induction l with
  | nil => rfl
  | cons y l ih => show (F (p x) (p y) != _) = (F (p x) (p y) != _); rw [ih]
theorem xp_map (F : Nat → Nat → Bool) (p : Nat → Nat) (l : List Nat) : xp F (l.map p) = xp (fun a b => F (p a) (p b)) l := by
  induction l with
  | nil => rfl
  | cons x l ih => show (xr F (p x) (l.map p) != xp F (l.map p)) = (xr _ x l != xp _ l); rw [xr_map, ih]
/-- the sign: is the number of pairs odd of which the greater one stands ahead? -/
def sg (l : List Nat) : Bool := xp (fun a b => decide (b < a)) l
theorem xr_none {F : Nat → Nat → Bool} {x : Nat} {l : List Nat} (h : ∀ y, y ∈ l → F x y = false) : xr F x l = false := by
  induction l with
  | nil => rfl
  | cons y l ih =>
    show (F x y != xr F x l) = false
    rw [h y (by simp), ih fun z hz => h z (by simp [hz])]; rfl
theorem xp_none {F : Nat → Nat → Bool} {l : List Nat} (h : l.Pairwise fun a b => F a b = false) : xp F l = false := by
  induction h with
  | nil => rfl
  | cons h1 _ ih =>
    show (xr F _ _ != xp F _) = false
    rw [xr_none h1, ih]; rfl
theorem sg_range (n : Nat) : sg (List.range n) = false := by
  refine xp_none ?_
  refine (List.pairwise_lt_range).imp ?_
  intro a b h
  exact decide_eq_false (by omega)
/-- one behind another one: odd just if one of both is -/
theorem sg_map {p : Nat → Nat} {n : Nat} {l : List Nat} (hl : l.Perm (List.range n)) (hp : ∀ a b, a < n → b < n → p a = p b → a = b) : sg (l.map p) = (sg ((List.range n).map p) != sg l) := by
  have hG : ∀ x y, x ∈ l → y ∈ l → (decide (p y < p x) != decide (y < x)) = (decide (p x < p y) != decide (x < y)) := by
    intro x y hx hy
    have h1 := List.mem_range.1 (hl.mem_iff.1 hx)
    have h2 := List.mem_range.1 (hl.mem_iff.1 hy)
    by_cases hxy : x = y
    · subst hxy; rfl
    · have hne : p x ≠ p y := fun h => hxy (hp x y h1 h2 h)
      by_cases c1 : p y < p x
      · rw [decide_eq_true c1, decide_eq_false (by omega : ¬ p x < p y)]
        by_cases c2 : y < x
        · rw [decide_eq_true c2, decide_eq_false (by omega : ¬ x < y)]; rfl
        · rw [decide_eq_false c2, decide_eq_true (by omega : x < y)]; rfl
      · rw [decide_eq_false c1, decide_eq_true (by omega : p x < p y)]
        by_cases c2 : y < x
        · rw [decide_eq_true c2, decide_eq_false (by omega : ¬ x < y)]; rfl
        · rw [decide_eq_false c2, decide_eq_true (by omega : x < y)]; rfl
  have e1 := xp_perm (F := fun a b => decide (p b < p a) != decide (b < a)) hl hG
  rw [xp_bne (fun a b => decide (p b < p a)) (fun a b => decide (b < a)), xp_bne (fun a b => decide (p b < p a)) (fun a b => decide (b < a))] at e1
  have e2 : xp (fun a b => decide (b < a)) (List.range n) = false := sg_range n
  unfold sg
  rw [xp_map, xp_map]
  rw [e2] at e1
  generalize xp (fun a b => decide (p b < p a)) l = A at *
  generalize xp (fun a b => decide (b < a)) l = B at *
  generalize xp (fun a b => decide (p b < p a)) (List.range n) = C at *
  revert e1
  cases A <;> cases B <;> cases C <;> simp
theorem xr_append (F : Nat → Nat → Bool) (x : Nat) (l m : List Nat) : xr F x (l ++ m) = (xr F x l != xr F x m) := by
  induction l with
  | nil => cases h : xr F x m <;> simp [xr, h]
  | cons y l ih =>
    show (F x y != xr F x (l ++ m)) = ((F x y != xr F x l) != xr F x m)
    rw [ih]
    cases F x y <;> cases xr F x l <;> cases xr F x m <;> rfl
/-- of each one of a list and x behind it -/
def xl (F : Nat → Nat → Bool) (x : Nat) (l : List Nat) : Bool := xr (fun a b => F b a) x l
/-- two neighbours that change places -/
theorem sg_swap_next {x y : Nat} (h : x ≠ y) (a c : List Nat) : sg (a ++ x :: y :: c) = !sg (a ++ y :: x :: c) := by
  induction a with
  | nil =>
    show ((decide (y < x) != xr _ x c) != (xr _ y c != xp _ c)) = !((decide (x < y) != xr _ y c) != (xr _ x c != xp _ c))
    by_cases c1 : y < x
    · rw [decide_eq_true c1, decide_eq_false (by omega : ¬ x < y)]
      generalize xr (fun a b => decide (b < a)) x c = A
      generalize xr (fun a b => decide (b < a)) y c = B
      generalize xp (fun a b => decide (b < a)) c = C
      cases A <;> cases B <;> cases C <;> rfl
    · rw [decide_eq_false c1, decide_eq_true (by omega : x < y)]
      generalize xr (fun a b => decide (b < a)) x c = A
      generalize xr (fun a b => decide (b < a)) y c = B
      generalize xp (fun a b => decide (b < a)) c = C
      cases A <;> cases B <;> cases C <;> rfl
  | cons z a ih =>
    show (xr _ z (a ++ x :: y :: c) != sg (a ++ x :: y :: c)) = !(xr _ z (a ++ y :: x :: c) != sg (a ++ y :: x :: c))
    have hp : (a ++ x :: y :: c).Perm (a ++ y :: x :: c) := List.Perm.append_left a (List.Perm.swap y x c)
    rw [xr_perm hp, ih]
    generalize xr (fun a b => decide (b < a)) z (a ++ y :: x :: c) = A
    generalize sg (a ++ y :: x :: c) = B
    cases A <;> cases B <;> rfl
/-- one that goes past a list -/
theorem sg_past {x : Nat} {b : List Nat} (h : ∀ y, y ∈ b → x ≠ y) (a c : List Nat) : sg (a ++ x :: (b ++ c)) = (sg (a ++ b ++ x :: c) != decide (b.length % 2 = 1)) := by
  induction b generalizing a with
  | nil => rw [List.nil_append, List.append_nil]; cases sg (a ++ x :: c) <;> rfl
  | cons y b ih =>
    have h1 : sg (a ++ x :: (y :: b ++ c)) = !sg (a ++ y :: x :: (b ++ c)) := sg_swap_next (h y (by simp)) a (b ++ c)
    have h2 := ih (fun z hz => h z (by simp [hz])) (a ++ [y])
    rw [show a ++ [y] ++ x :: (b ++ c) = a ++ y :: x :: (b ++ c) by simp, show a ++ [y] ++ b ++ x :: c = a ++ y :: b ++ x :: c by simp] at h2
    rw [h1, h2]
    have h3 : decide ((y :: b).length % 2 = 1) = !decide (b.length % 2 = 1) := by
      rw [List.length_cons]
      by_cases hc : b.length % 2 = 1
      · rw [decide_eq_true hc, decide_eq_false (by omega)]; rfl
      · rw [decide_eq_false hc, decide_eq_true (by omega)]; rfl
    rw [h3]
    cases sg (a ++ y :: b ++ x :: c) <;> cases decide (b.length % 2 = 1) <;> rfl
/-- two that change places: the other sign -/
theorem sg_swap {x y : Nat} {b : List Nat} (hxy : x ≠ y) (hx : ∀ z, z ∈ b → x ≠ z) (hy : ∀ z, z ∈ b → y ≠ z) (a c : List Nat) : sg (a ++ x :: (b ++ y :: c)) = !sg (a ++ y :: (b ++ x :: c)) := by
  rw [sg_past hx, sg_past hy]
  have h := sg_swap_next hxy (a ++ b) c
  rw [h]
  cases sg (a ++ b ++ y :: x :: c) <;> cases decide (b.length % 2 = 1) <;> rfl
end Go.Proofs.Ytgppbimbampenaa
