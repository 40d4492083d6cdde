/- What natdiv.takeRow and natdiv.putRow reckon, word by word. -/
import Derived.Test.YtfbnpdlkbabmfaaDoorRaiseNum
import Derived.Test.YtfbnpdlkbabmfaaDoorMulNum
namespace Go.Proofs.YtfbnpdlkbabmfaaDoor
open Go.RowKit Go.Shelf

def tkLow (x y c : Nat) : Nat := add64 (mulLo x y) c 0
def tkHigh (x y c : Nat) : Nat := mulHi x y + carry64 (mulLo x y) c 0
theorem tk_bound {x y s c : Nat} (hx : x < 18446744073709551616) (hy : y < 18446744073709551616) (hs : s < 18446744073709551616) (hc : c < 18446744073709551616) :
    sub64 s (tkLow x y c) 0 + x * y + c = s + 18446744073709551616 * (tkHigh x y c + borrow64 s (tkLow x y c) 0) ∧ tkHigh x y c + borrow64 s (tkLow x y c) 0 < 18446744073709551616 ∧ tkHigh x y c < 18446744073709551616 ∧ tkLow x y c < 18446744073709551616 := by
  have h1 : x * y ≤ 18446744073709551615 * 18446744073709551615 := Nat.mul_le_mul (by omega) (by omega)
  unfold tkLow tkHigh sub64 borrow64 add64 carry64 mulLo mulHi
  generalize x * y = p at *
  split <;> omega
/-- a list times a word, taken off: (the words, what is borrowed) -/
def tkS (Q : List Nat) (x off : Nat) (s : List Nat) : Nat → List Nat × Nat
  | 0 => (s, 0)
  | k + 1 => ((tkS Q x off s k).1.set (off + k) (sub64 (lim (tkS Q x off s k).1 (off + k)) (tkLow x (lim Q k) (tkS Q x off s k).2) 0), tkHigh x (lim Q k) (tkS Q x off s k).2 + borrow64 (lim (tkS Q x off s k).1 (off + k)) (tkLow x (lim Q k) (tkS Q x off s k).2) 0)
theorem tk_fine {Q s : List Nat} {x : Nat} (off : Nat) (hQ : Low 18446744073709551616 Q) (hs : Low 18446744073709551616 s) (hx : x < 18446744073709551616) (k : Nat) :
    (tkS Q x off s k).1.length = s.length ∧ (tkS Q x off s k).2 < 18446744073709551616 ∧ Low 18446744073709551616 (tkS Q x off s k).1 ∧ (∀ i, off + k ≤ i → lim (tkS Q x off s k).1 i = lim s i) := by
  induction k with
  | zero => exact ⟨rfl, by simp [tkS], hs, fun _ _ => rfl⟩
  | succ k ih =>
    obtain ⟨h1, h2, h3, h4⟩ := ih
    have hb := tk_bound hx (lim_lt hQ (by decide) k) (lim_lt h3 (by decide) (off + k)) h2
    rw [tkS]
    generalize tkS Q x off s k = r at *
    refine ⟨by simp [h1], hb.2.1, low_set h3 (Nat.mod_lt _ (by decide)), fun i hi => ?_⟩
    rw [lim_set, if_neg (by omega)]
    exact h4 i (by omega)
theorem tk_range {Q s : List Nat} {x off : Nat} (hQ : Low 18446744073709551616 Q) (hs : Low 18446744073709551616 s) (hx : x < 18446744073709551616) (k : Nat) (hk : off + k ≤ s.length) :
    part 18446744073709551616 (tkS Q x off s k).1 (off + k) + 18446744073709551616 ^ off * (x * part 18446744073709551616 Q k) = part 18446744073709551616 s (off + k) + 18446744073709551616 ^ (off + k) * (tkS Q x off s k).2 := by
  induction k with
  | zero => simp [part, tkS]
  | succ k ih =>
    have hi := ih (by omega)
    obtain ⟨f1, f2, f3, f4⟩ := tk_fine off hQ hs hx k
    have hsk := f4 (off + k) (Nat.le_refl _)
    have hb := (tk_bound hx (lim_lt hQ (by decide) k) (lim_lt f3 (by decide) (off + k)) f2).1
    rw [tkS]
    generalize tkS Q x off s k = r at *
    rw [hsk] at hb ⊢
    rw [show off + (k + 1) = off + k + 1 by omega]
    simp only [part]
    rw [part_set_ge (Nat.le_refl _), lim_set, if_pos ⟨rfl, by omega⟩]
    generalize sub64 (lim s (off + k)) (tkLow x (lim Q k) r.2) 0 = d at hb ⊢
    generalize tkHigh x (lim Q k) r.2 + borrow64 (lim s (off + k)) (tkLow x (lim Q k) r.2) 0 = c at hb ⊢
    have hm := congrArg (18446744073709551616 ^ (off + k) * ·) hb
    simp only [Nat.mul_add] at hm
    have h1 : 18446744073709551616 ^ (off + k + 1) * c = 18446744073709551616 ^ (off + k) * (18446744073709551616 * c) := by rw [Nat.pow_succ, Nat.mul_assoc]
    have h2 : 18446744073709551616 ^ off * (x * (part 18446744073709551616 Q k + 18446744073709551616 ^ k * lim Q k)) = 18446744073709551616 ^ off * (x * part 18446744073709551616 Q k) + 18446744073709551616 ^ (off + k) * (x * lim Q k) := by
      rw [Nat.mul_add x, Nat.mul_add]
      congr 1
      rw [Nat.pow_add, Nat.mul_assoc (18446744073709551616 ^ off), Nat.mul_left_comm x]
    rw [h1, h2]
    omega
/-- a list, put back: (the words, what is carried) -/
def puS (Q : List Nat) (off : Nat) (s : List Nat) : Nat → List Nat × Nat
  | 0 => (s, 0)
  | k + 1 => ((puS Q off s k).1.set (off + k) (add64 (lim (puS Q off s k).1 (off + k)) (lim Q k) (puS Q off s k).2), carry64 (lim (puS Q off s k).1 (off + k)) (lim Q k) (puS Q off s k).2)
theorem pu_fine {Q s : List Nat} (off : Nat) (hQ : Low 18446744073709551616 Q) (hs : Low 18446744073709551616 s) (k : Nat) :
    (puS Q off s k).1.length = s.length ∧ (puS Q off s k).2 ≤ 1 ∧ Low 18446744073709551616 (puS Q off s k).1 ∧ (∀ i, off + k ≤ i → lim (puS Q off s k).1 i = lim s i) := by
  induction k with
  | zero => exact ⟨rfl, by simp [puS], hs, fun _ _ => rfl⟩
  | succ k ih =>
    obtain ⟨h1, h2, h3, h4⟩ := ih
    have hq := lim_lt hQ (by decide) k
    have ho := lim_lt h3 (by decide) (off + k)
    rw [puS]
    generalize puS Q off s k = r at *
    refine ⟨by simp [h1], by simp only [carry64]; omega, low_set h3 (Nat.mod_lt _ (by decide)), fun i hi => ?_⟩
    rw [lim_set, if_neg (by omega)]
    exact h4 i (by omega)
theorem pu_range {Q s : List Nat} {off : Nat} (hQ : Low 18446744073709551616 Q) (hs : Low 18446744073709551616 s) (k : Nat) (hk : off + k ≤ s.length) :
    part 18446744073709551616 (puS Q off s k).1 (off + k) + 18446744073709551616 ^ (off + k) * (puS Q off s k).2 = part 18446744073709551616 s (off + k) + 18446744073709551616 ^ off * part 18446744073709551616 Q k := by
  induction k with
  | zero => simp [part, puS]
  | succ k ih =>
    have hi := ih (by omega)
    obtain ⟨f1, f2, f3, f4⟩ := pu_fine off hQ hs k
    have hsk := f4 (off + k) (Nat.le_refl _)
    rw [puS]
    generalize puS Q off s k = r at *
    rw [hsk, show off + (k + 1) = off + k + 1 by omega]
    simp only [part]
    rw [part_set_ge (Nat.le_refl _), lim_set, if_pos ⟨rfl, by omega⟩]
    have hb : add64 (lim s (off + k)) (lim Q k) r.2 + 18446744073709551616 * carry64 (lim s (off + k)) (lim Q k) r.2 = lim s (off + k) + lim Q k + r.2 := Nat.mod_add_div _ _
    generalize add64 (lim s (off + k)) (lim Q k) r.2 = d at hb ⊢
    generalize carry64 (lim s (off + k)) (lim Q k) r.2 = c at hb ⊢
    have hm := congrArg (18446744073709551616 ^ (off + k) * ·) hb
    simp only [Nat.mul_add] at hm
    have h1 : 18446744073709551616 ^ (off + k + 1) * c = 18446744073709551616 ^ (off + k) * (18446744073709551616 * c) := by rw [Nat.pow_succ, Nat.mul_assoc]
    have h2 : 18446744073709551616 ^ off * (part 18446744073709551616 Q k + 18446744073709551616 ^ k * lim Q k) = 18446744073709551616 ^ off * part 18446744073709551616 Q k + 18446744073709551616 ^ (off + k) * lim Q k := by
      rw [Nat.mul_add, Nat.pow_add, Nat.mul_assoc]
    rw [h1, h2]
    omega
/-- what holds when k words are taken -/
def tkI (Q s : List Nat) (x S off cap : Nat) (vq : Value) (w : World) (k : Nat) (W : World) : Prop :=
  (Row .u64 47 W S (tkS Q x off s k).1 ∧ Boxed W w.heap.size 22 (.slice (some ⟨S, off, none⟩) Q.length cap) ∧ Boxed W (w.heap.size + 1) 47 (.int .u64 (x : Int)) ∧ Boxed W (w.heap.size + 1 + 1) 47 (.int .u64 ((tkS Q x off s k).2 : Int)) ∧
    Boxed W (w.heap.size + 1 + 1 + 1) 22 vq) ∧ Off S w W
theorem tkI_steady (Q s : List Nat) (x S off cap : Nat) (vq : Value) (w : World) (k : Nat) {B₀ : Nat} (h : w.heap.size ≤ B₀) : Steady B₀ (tkI Q s x S off cap vq w k) :=
  Steady.and (Steady.and steady_row (Steady.and steady_boxed (Steady.and steady_boxed (Steady.and steady_boxed steady_boxed)))) (steady_off h)
def puI (Q s : List Nat) (S off cap : Nat) (vq : Value) (w : World) (k : Nat) (W : World) : Prop :=
  (Row .u64 47 W S (puS Q off s k).1 ∧ Boxed W w.heap.size 22 (.slice (some ⟨S, off, none⟩) Q.length cap) ∧ Boxed W (w.heap.size + 1) 47 (.int .u64 ((puS Q off s k).2 : Int)) ∧
    Boxed W (w.heap.size + 1 + 1) 22 vq) ∧ Off S w W
theorem puI_steady (Q s : List Nat) (S off cap : Nat) (vq : Value) (w : World) (k : Nat) {B₀ : Nat} (h : w.heap.size ≤ B₀) : Steady B₀ (puI Q s S off cap vq w k) :=
  Steady.and (Steady.and steady_row (Steady.and steady_boxed (Steady.and steady_boxed steady_boxed))) (steady_off h)
end Go.Proofs.YtfbnpdlkbabmfaaDoor
