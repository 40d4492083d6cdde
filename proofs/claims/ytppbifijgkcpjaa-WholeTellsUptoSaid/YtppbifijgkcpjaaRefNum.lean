/- Plain numbers for the document's own answers: digits of 16 bits. -/
import Derived.Test.YtppbifijgkcpjaaRun
namespace Go.Proofs.Ytppbifijgkcpjaa

/-- a word's four digits of 16 bits -/
def d16 (x : Nat) : List Nat := [x % 65536, x / 65536 % 65536, x / 65536 / 65536 % 65536, x / 65536 / 65536 / 65536 % 65536]
def of16 (xs : List Nat) : List Nat := xs.flatMap d16
theorem d16_length (x : Nat) : (d16 x).length = 4 := rfl
theorem of16_length (xs : List Nat) : (of16 xs).length = 4 * xs.length := by
  induction xs with
  | nil => rfl
  | cons x r ih => simp only [of16, List.flatMap_cons, List.length_append, d16_length, List.length_cons] at ih ⊢; omega
theorem of16_snoc (xs : List Nat) (x : Nat) : of16 (xs ++ [x]) = of16 xs ++ d16 x := by simp [of16]
theorem d16_low (x : Nat) : Low 65536 (d16 x) := by
  intro y hy
  simp [d16] at hy
  omega
theorem of16_low (xs : List Nat) : Low 65536 (of16 xs) := by
  intro y hy
  obtain ⟨x, _, h⟩ := List.mem_flatMap.1 hy
  exact d16_low x y h
theorem d16_val {x : Nat} (hx : x < 18446744073709551616) : val 65536 (d16 x) = x := by
  simp only [d16, val]
  omega
theorem of16_val {xs : List Nat} (h : Low 18446744073709551616 xs) : val 65536 (of16 xs) = val 18446744073709551616 xs := by
  induction xs with
  | nil => rfl
  | cons x r ih =>
    have h1 := ih fun y hy => h y (List.mem_cons_of_mem _ hy)
    have h2 := d16_val (h x (List.mem_cons_self ..))
    show val 65536 (d16 x ++ of16 r) = _
    rw [val_append, h1, h2, d16_length, val]
/-- what is cut off at the end -/
theorem cutz_at {xs : List Nat} {k : Nat} (hk : k ≤ xs.length) (hz : ∀ j, k ≤ j → j < xs.length → lim xs j = 0) (ht : k = 0 ∨ lim xs (k - 1) ≠ 0) : cutz xs = xs.take k := by
  rcases ht with rfl | ht
  · rw [cutz_none fun j hj => hz j (Nat.zero_le _) hj]; rfl
  · rcases Nat.eq_zero_or_pos k with rfl | h0
    · rw [cutz_none fun j hj => hz j (Nat.zero_le _) hj]; rfl
    · have := cutz_take (xs := xs) (i := k - 1) (by omega) ht fun j h1 h2 => hz j (by omega) h2
      rwa [Nat.sub_add_cancel h0] at this
theorem take_snoc {xs : List Nat} {i : Nat} (h : i < xs.length) : xs.take (i + 1) = xs.take i ++ [lim xs i] := by
  rw [List.take_succ_eq_append_getElem h]; unfold lim; rw [List.getElem?_eq_getElem h]; rfl
theorem d16_take (x k : Nat) (hk : k < 4) : (d16 x).take (k + 1) = (d16 x).take k ++ [x / 65536 ^ k % 65536] := by
  have : k = 0 ∨ k = 1 ∨ k = 2 ∨ k = 3 := by omega
  rcases this with rfl | rfl | rfl | rfl <;> simp [d16, Nat.div_div_eq_div_mul]
end Go.Proofs.Ytppbifijgkcpjaa
