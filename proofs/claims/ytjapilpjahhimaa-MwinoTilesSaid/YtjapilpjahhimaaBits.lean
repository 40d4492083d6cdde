/- math/bits.Mul64 and math/bits.Len64 at this program, by the library's own contracts. -/
import Derived.Test.YtjapilpjahhimaaNum
import Derived.Shelf.Bits.Mul64
import Derived.Shelf.Strconv.Itoa0
namespace Go.Proofs.Ytjapilpjahhimaa
open Go.RowKit Go.Shelf

def mulHi (x y : Nat) : Nat := x * y / 18446744073709551616
def mulLo (x y : Nat) : Nat := x * y % 18446744073709551616
theorem lays_mul : Lays.n264 Try.prog ⟨fun _ => 106, fun n => if n = 53 then 49 else 85, fun n => n⟩ where
  mixed := by kernel_rfl
  f264 := by kernel_rfl
  t46 := by kernel_rfl
  a46 := fun _ => by kernel_rfl
  z46 := fun _ => by kernel_rfl
  v46 := fun _ => by kernel_rfl
  t53 := by kernel_rfl
  a53 := fun _ => by kernel_rfl
  z53 := fun _ => by kernel_rfl
  v53 := fun _ => by kernel_rfl
theorem mul64_calls (x y : Nat) (hx : x < 18446744073709551616) (hy : y < 18446744073709551616) (w : World) :
    Calls Try.prog 106 #[.int .u64 x, .int .u64 y] w fun e w' => e = .returned (.tuple #[.int .u64 (mulHi x y : Int), .int .u64 (mulLo x y : Int)]) ∧ w = w' :=
  (Any.bits_Mul64 lays_mul x y hx hy w).mono fun _ _ ⟨he, hw⟩ => ⟨he, hw.symm⟩
theorem lays_len : Lays.n129 Try.prog ⟨fun _ => 126, fun n => if n = 3 then 3 else if n = 4 then 4 else if n = 5 then 5 else if n = 9 then 9 else if n = 53 then 49 else 85, fun n => n⟩ where
  mixed := by kernel_rfl
  f129 := by kernel_rfl
  t3 := by kernel_rfl
  a3 := fun _ => by kernel_rfl
  z3 := fun _ => by kernel_rfl
  v3 := fun _ => by kernel_rfl
  t4 := by kernel_rfl
  a4 := fun _ => by kernel_rfl
  z4 := fun _ => by kernel_rfl
  v4 := fun _ => by kernel_rfl
  t5 := by kernel_rfl
  a5 := fun _ => by kernel_rfl
  z5 := fun _ => by kernel_rfl
  v5 := fun _ => by kernel_rfl
  t9 := by kernel_rfl
  a9 := fun _ => by kernel_rfl
  z9 := fun _ => by kernel_rfl
  v9 := fun _ => by kernel_rfl
  t46 := by kernel_rfl
  a46 := fun _ => by kernel_rfl
  z46 := fun _ => by kernel_rfl
  v46 := fun _ => by kernel_rfl
  t53 := by kernel_rfl
  a53 := fun _ => by kernel_rfl
  z53 := fun _ => by kernel_rfl
  v53 := fun _ => by kernel_rfl
theorem len64_calls (x : Nat) (hx : x < 18446744073709551616) (w : World) :
    Calls Try.prog 126 #[.int .u64 x] w fun e w' => e = .returned (.int .i64 (Lib.bitLen x : Int)) ∧ w = w' :=
  (Any.bits_Len64 lays_len x w (by omega) (by omega)).mono fun _ _ ⟨he, hw⟩ => ⟨by rw [he, Int.toNat_natCast], hw.symm⟩

/-! ### what addRow reckons -/
/-- a world in which block S alone, of what lay there, has turned -/
structure Off (S : Nat) (w w' : World) : Prop where
  os : w'.os = w.os
  tape : w'.tape = w.tape
  output : w'.output = w.output
  size : w.heap.size ≤ w'.heap.size
  block : ∀ k, k < w.heap.size → k ≠ S → w'.heap[k]? = w.heap[k]?
theorem Off.refl (S : Nat) (w : World) : Off S w w := ⟨rfl, rfl, rfl, Nat.le_refl _, fun _ _ _ => rfl⟩
theorem Off.below {S : Nat} {w a b : World} (h : Off S w a) (k : Below w.heap.size a b) : Off S w b :=
  ⟨k.os.trans h.os, k.tape.trans h.tape, k.output.trans h.output, Nat.le_trans h.size k.size, fun i hi hn => (k.block i hi).trans (h.block i hi hn)⟩
theorem Off.set {S : Nat} {w a : World} (h : Off S w a) {p : Addr} (hp : p.block = S ∨ w.heap.size ≤ p.block) (u : Value) : Off S w (a.setCell p u) :=
  ⟨h.os, h.tape, h.output, by simpa [World.setCell] using h.size, fun i hi hn => (Below.heap_setCell _ _ _ _ (by omega)).trans (h.block i hi hn)⟩
theorem Off.drew {S : Nat} {w a : World} (h : Off S w a) : Off S w a.drew := ⟨h.os, h.tape, h.output, h.size, h.block⟩
theorem Off.to_below {S n : Nat} {w a b : World} (h : Below n w a) (k : Off S a b) (hn : n ≤ S) (hs : n ≤ a.heap.size) : Below n w b :=
  ⟨k.os.trans h.os, k.tape.trans h.tape, k.output.trans h.output, Nat.le_trans h.size k.size, fun i hi => (k.block i (by omega) (by omega)).trans (h.block i hi)⟩
theorem ownFrom_off {β : Type} {S B : Nat} {w₀ : World} (hB : w₀.heap.size ≤ B) : OwnFrom B (fun (_ : β) W => Off S w₀ W) :=
  fun _ _ _ row hs hg hr => ⟨hg.os.trans hs.os, hg.tape.trans hs.tape, hg.output.trans hs.output, Nat.le_trans hs.size hg.size, fun k hk hn =>
    (hg.block k (Nat.lt_of_lt_of_le hk hs.size) (fun e => by have := (hr k e.symm).1; omega)).trans (hs.block k hk hn)⟩

theorem _root_.Go.Boxed.off {S : Nat} {W W' : World} {B : Nat} {t : TypeId} {v : Value} (h : Boxed W B t v) (ho : Off S W W') (hne : B ≠ S) : Boxed W' B t v := (ho.block B h.lt hne).trans h
theorem keepsFrom_off {k : IntKind} {t : TypeId} {S B : Nat} {W W' : World} {s : List Nat} (hr : Row k t W S s) (ho : Off S W W') : KeepsFrom B W W' :=
  ⟨ho.size, fun i o _ hi hc => by
    by_cases e : i = S
    · subst e
      rw [show W.heap[i]? = _ from hr] at hi
      cases hi
      cases hc
    · exact (ho.block i (Array.getElem?_eq_some_iff.1 hi).1 e).trans hi⟩
def rowStep (Q : List Nat) (x off : Nat) (s : List Nat × Nat) (j : Nat) : List Nat × Nat :=
  (s.1.set (off + j) (add64 (add64 (mulLo x (lim Q j)) (lim s.1 (off + j)) 0) s.2 0),
   mulHi x (lim Q j) + carry64 (mulLo x (lim Q j)) (lim s.1 (off + j)) 0 + carry64 (add64 (mulLo x (lim Q j)) (lim s.1 (off + j)) 0) s.2 0)
def rowRun (Q : List Nat) (x off : Nat) (s : List Nat) (l : List Nat) : List Nat × Nat := l.foldl (rowStep Q x off) (s, 0)
theorem rowRun_snoc (Q : List Nat) (x off : Nat) (s : List Nat) (l : List Nat) (j : Nat) : rowRun Q x off s (l ++ [j]) = rowStep Q x off (rowRun Q x off s l) j := by simp [rowRun]
theorem mul_bound {x y s c : Nat} (hx : x < 18446744073709551616) (hy : y < 18446744073709551616) (hs : s < 18446744073709551616) (hc : c < 18446744073709551616) :
    add64 (add64 (mulLo x y) s 0) c 0 + 18446744073709551616 * (mulHi x y + carry64 (mulLo x y) s 0 + carry64 (add64 (mulLo x y) s 0) c 0) = x * y + s + c ∧
      mulHi x y + carry64 (mulLo x y) s 0 + carry64 (add64 (mulLo x y) s 0) c 0 < 18446744073709551616 ∧ mulHi x y + carry64 (mulLo x y) s 0 < 18446744073709551616 := by
  have h1 : x * y ≤ 18446744073709551615 * 18446744073709551615 := Nat.mul_le_mul (by omega) (by omega)
  unfold add64 carry64 mulLo mulHi
  generalize x * y = p at *
  omega
def RowFine (n : Nat) (s : List Nat × Nat) : Prop := s.1.length = n ∧ s.2 < 18446744073709551616 ∧ Low 18446744073709551616 s.1
theorem row_fine {Q s : List Nat} {x : Nat} (off : Nat) (hQ : Low 18446744073709551616 Q) (hs : Low 18446744073709551616 s) (hx : x < 18446744073709551616) (l : List Nat) : RowFine s.length (rowRun Q x off s l) := by
  unfold rowRun
  suffices h : ∀ st, RowFine s.length st → RowFine s.length (l.foldl (rowStep Q x off) st) from h _ ⟨rfl, (by show 0 < _; omega), hs⟩
  induction l with
  | nil => intro st h; exact h
  | cons j r ih =>
    intro st ⟨h1, h2, h3⟩
    refine ih _ ⟨by simp [rowStep, h1], ?_, low_set h3 (Nat.mod_lt _ (by decide))⟩
    exact (mul_bound hx (lim_lt hQ (by decide) j) (lim_lt h3 (by decide) (off + j)) h2).2.1
end Go.Proofs.Ytjapilpjahhimaa

/- nat.Even: is the lowest word even? -/
namespace Go.Proofs.Ytjapilpjahhimaa
open Go.RowKit Go.Shelf

end Go.Proofs.Ytjapilpjahhimaa

/- What nat.Mul reckons, row by row: plain numbers. -/
namespace Go.Proofs.Ytjapilpjahhimaa

theorem part_split {B : Nat} {xs : List Nat} {k : Nat} (h : ∀ i, k ≤ i → lim xs i = 0) : val B xs = part B xs k := by
  rcases Nat.le_total xs.length k with hl | hl
  · exact (part_ge B xs k hl).symm
  · have key : ∀ m, part B xs (k + m) = part B xs k := by
      intro m
      induction m with
      | zero => rfl
      | succ m ih => rw [show k + (m + 1) = k + m + 1 by omega, part, h (k + m) (by omega), ih]; simp
    rw [← part_all, show xs.length = k + (xs.length - k) by omega, key]
theorem row_range {Q s : List Nat} {x off : Nat} (hQ : Low 18446744073709551616 Q) (hs : Low 18446744073709551616 s) (hx : x < 18446744073709551616) (k : Nat) (hk : off + k ≤ s.length) :
    (part 18446744073709551616 (rowRun Q x off s (List.range k)).1 (off + k) + 18446744073709551616 ^ (off + k) * (rowRun Q x off s (List.range k)).2 = part 18446744073709551616 s (off + k) + 18446744073709551616 ^ off * (x * part 18446744073709551616 Q k)) ∧
      (∀ i, off + k ≤ i → lim (rowRun Q x off s (List.range k)).1 i = lim s i) := by
  induction k with
  | zero => simp [part, rowRun]
  | succ k ih =>
    obtain ⟨hi, hz⟩ := ih (by omega)
    obtain ⟨f1, f2, f3⟩ := row_fine off hQ hs hx (List.range k)
    rw [List.range_succ, rowRun_snoc]
    generalize rowRun Q x off s (List.range k) = r at hi hz f1 f2 f3 ⊢
    obtain ⟨hb, _, _⟩ := mul_bound hx (lim_lt hQ (by decide) k) (lim_lt f3 (by decide) (off + k)) f2
    have hsk := hz (off + k) (Nat.le_refl _)
    simp only [rowStep]
    generalize add64 (add64 (mulLo x (lim Q k)) (lim r.1 (off + k)) 0) r.2 0 = d at hb ⊢
    generalize mulHi x (lim Q k) + carry64 (mulLo x (lim Q k)) (lim r.1 (off + k)) 0 + carry64 (add64 (mulLo x (lim Q k)) (lim r.1 (off + k)) 0) r.2 0 = c at hb ⊢
    constructor
    · have e : off + (k + 1) = off + k + 1 := by omega
      rw [e]
      simp only [part]
      rw [part_set_ge (Nat.le_refl _), lim_set, if_pos ⟨rfl, by omega⟩]
      have hm := congrArg (18446744073709551616 ^ (off + k) * ·) hb
      simp only [Nat.mul_add, hsk] at hm
      have h1 : 18446744073709551616 ^ (off + k + 1) * c = 18446744073709551616 ^ (off + k) * (18446744073709551616 * c) := by rw [Nat.pow_succ, Nat.mul_assoc]
      have h2 : 18446744073709551616 ^ off * (x * (part 18446744073709551616 Q k + 18446744073709551616 ^ k * lim Q k)) = 18446744073709551616 ^ off * (x * part 18446744073709551616 Q k) + 18446744073709551616 ^ (off + k) * (x * lim Q k) := by
        rw [Nat.mul_add x, Nat.mul_add]
        congr 1
        rw [Nat.pow_add, Nat.mul_assoc (18446744073709551616 ^ off), Nat.mul_left_comm x]
      rw [h1, h2]
      omega
    · intro i hi'
      rw [lim_set, if_neg (by omega)]
      exact hz i (by omega)
def mulStep (P Q : List Nat) (s : List Nat) (i : Nat) : List Nat := (rowRun Q (lim P i) i s (List.range Q.length)).1.set (i + Q.length) (rowRun Q (lim P i) i s (List.range Q.length)).2
def mulRun (P Q : List Nat) (l : List Nat) : List Nat := l.foldl (mulStep P Q) (List.replicate (P.length + Q.length) 0)
theorem mulRun_snoc (P Q : List Nat) (l : List Nat) (j : Nat) : mulRun P Q (l ++ [j]) = mulStep P Q (mulRun P Q l) j := by simp [mulRun]
theorem mul_fine {P Q : List Nat} (hP : Low 18446744073709551616 P) (hQ : Low 18446744073709551616 Q) (l : List Nat) : (mulRun P Q l).length = P.length + Q.length ∧ Low 18446744073709551616 (mulRun P Q l) := by
  unfold mulRun
  suffices h : ∀ s : List Nat, s.length = P.length + Q.length ∧ Low 18446744073709551616 s → (l.foldl (mulStep P Q) s).length = P.length + Q.length ∧ Low 18446744073709551616 (l.foldl (mulStep P Q) s) from h _ ⟨by simp, low_rep (by decide)⟩
  induction l with
  | nil => intro s h; exact h
  | cons j r ih =>
    intro s ⟨h1, h2⟩
    obtain ⟨f1, f2, f3⟩ := row_fine (x := lim P j) j hQ h2 (lim_lt hP (by decide) j) (List.range Q.length)
    exact ih _ ⟨by simp [mulStep, f1, h1], low_set f3 f2⟩
theorem mul_range {P Q : List Nat} (hP : Low 18446744073709551616 P) (hQ : Low 18446744073709551616 Q) (k : Nat) (hk : k ≤ P.length) :
    val 18446744073709551616 (mulRun P Q (List.range k)) = part 18446744073709551616 P k * val 18446744073709551616 Q ∧ ∀ i, k + Q.length ≤ i → lim (mulRun P Q (List.range k)) i = 0 := by
  induction k with
  | zero =>
    refine ⟨by simp [mulRun, part]; exact val_zeros _ _ (fun x hx => List.eq_of_mem_replicate hx), fun i _ => ?_⟩
    simp [mulRun, lim, List.getElem?_replicate]
    split <;> rfl
  | succ k ih =>
    obtain ⟨hv, hz⟩ := ih (by omega)
    obtain ⟨f1, f2⟩ := mul_fine hP hQ (List.range k)
    rw [List.range_succ, mulRun_snoc]
    generalize mulRun P Q (List.range k) = s at hv hz f1 f2 ⊢
    have hx := lim_lt hP (by decide) k
    obtain ⟨g1, g2⟩ := row_range (off := k) hQ f2 hx Q.length (by omega)
    obtain ⟨e1, e2, e3⟩ := row_fine k hQ f2 hx (List.range Q.length)
    simp only [mulStep]
    generalize rowRun Q (lim P k) k s (List.range Q.length) = r at g1 g2 e1 e2 e3 ⊢
    have hz' : ∀ i, k + Q.length + 1 ≤ i → lim (r.1.set (k + Q.length) r.2) i = 0 := by
      intro i hi
      rw [lim_set, if_neg (by omega), g2 i (by omega), hz i (by omega)]
    refine ⟨?_, fun i hi => hz' i (by omega)⟩
    rw [part_split hz', part, part_set_ge (Nat.le_refl _), lim_set, if_pos ⟨rfl, by omega⟩, g1, ← part_split hz, hv, part_all, part, Nat.add_mul, Nat.mul_assoc]
theorem mul_all {P Q : List Nat} (hP : Low 18446744073709551616 P) (hQ : Low 18446744073709551616 Q) : cutz (mulRun P Q (List.range P.length)) = digs 18446744073709551616 (val 18446744073709551616 P * val 18446744073709551616 Q) := by
  rw [cutz_eq_digs (by decide) (mul_fine hP hQ _).2, (mul_range hP hQ P.length (Nat.le_refl _)).1, part_all]
end Go.Proofs.Ytjapilpjahhimaa
