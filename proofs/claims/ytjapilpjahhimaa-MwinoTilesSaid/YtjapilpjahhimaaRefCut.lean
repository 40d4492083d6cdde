/- vernierref01.cut, vernierref01.Of: the document's own naturals, digits of 16 bits. -/
import Derived.Test.YtjapilpjahhimaaSame
import Derived.Test.YtjapilpjahhimaaNum
import Derived.Test.YtjapilpjahhimaaBitNum
import Derived.IntWalk
import Derived.Test.YtjapilpjahhimaaBits
import Derived.Test.YtjapilpjahhimaaNums
namespace Go.Proofs.Ytjapilpjahhimaa
open Go.RowKit Go.Shelf

/-- the slice value v reads as the digits xs; it lies in block b, or has none -/
def IAt (b : Nat) (W : World) (v : Value) (xs : List Nat) : Prop :=
  ((∃ a cap, v = .slice a 0 cap) ∧ xs = []) ∨ ∃ off cap, v = .slice (some ⟨b, off, none⟩) xs.length cap ∧ xs.length ≤ cap ∧ ∀ j, j < xs.length → W.cell? ⟨b, off + j, none⟩ = some (.int .i64 (lim xs j : Int))
section
variable {b : Nat} {W W' : World} {v : Value} {xs : List Nat}
set_option maxRecDepth 100000 in
theorem IAt.kept (h : IAt b W v xs) (hk : W'.heap[b]? = W.heap[b]?) : IAt b W' v xs := by
  rcases h with h | ⟨off, cap, e, hl, hc⟩
  · exact .inl h
  · exact .inr ⟨off, cap, e, hl, fun j hj => (World.cell?_of_block (w := W) hk).trans (hc j hj)⟩
set_option maxRecDepth 100000 in
theorem IAt.slice (h : IAt b W v xs) : ∃ a cap, v = .slice a xs.length cap ∧ xs.length ≤ cap ∧ (0 < xs.length → ∃ off, a = some ⟨b, off, none⟩) := by
  rcases h with ⟨⟨a, cap, rfl⟩, rfl⟩ | ⟨off, cap, rfl, hl, _⟩
  · exact ⟨a, cap, rfl, Nat.zero_le _, fun h => absurd h (by simp)⟩
  · exact ⟨_, cap, rfl, hl, fun _ => ⟨off, rfl⟩⟩
set_option maxRecDepth 100000 in
theorem IAt.cell {off m cap j : Nat} (h : IAt b W (.slice (some ⟨b, off, none⟩) m cap) xs) (hj : j < xs.length) : W.cell? ⟨b, off + j, none⟩ = some (.int .i64 (lim xs j : Int)) := by
  rcases h with ⟨_, rfl⟩ | ⟨off', cap', h, hl, hc⟩
  · exact absurd hj (by simp)
  · cases h; exact hc j hj
set_option maxRecDepth 100000 in
theorem IAt.take {a : Option Addr} {m cap k : Nat} (h : IAt b W (.slice a m cap) xs) (hk : k ≤ xs.length) : IAt b W (.slice a k cap) (xs.take k) := by
  rcases h with ⟨_, rfl⟩ | ⟨off', cap', h, hl, hc⟩
  · obtain rfl : k = 0 := by simpa using hk
    exact .inl ⟨⟨_, _, rfl⟩, by simp⟩
  · cases h
    refine .inr ⟨off', cap, by simp [Nat.min_eq_left hk], by simp; omega, fun j hj => ?_⟩
    have hj' : j < k := by simp at hj; omega
    rw [lim_take hj']
    exact hc j (by omega)
end


def ints (xs : List Nat) : List Value := xs.map fun (x : Nat) => Value.int .i64 (x : Int)
set_option maxRecDepth 100000 in
theorem ints_snoc (xs : List Nat) (x : Nat) : ints xs ++ [.int .i64 (x : Int)] = ints (xs ++ [x]) := by simp [ints]
set_option maxRecDepth 100000 in
theorem own_ints {W : World} {base m : Nat} {v : Value} {xs : List Nat} (h : W.ownsRow base 3 1 v m (ints xs)) : m = xs.length ∧ (v = .slice none 0 0 ∧ xs = [] ∨ ∃ S, base ≤ S ∧ S < W.heap.size ∧ IAt S W v xs) := by
  have hm : m = xs.length := by have := h.1; simp [ints] at this; omega
  subst hm
  refine ⟨rfl, ?_⟩
  rcases h.2 with ⟨h1, h2⟩ | ⟨g, cap, cur, rfl, hb, hg, hn, _, _, _⟩
  · exact .inl ⟨h1, List.eq_nil_of_length_eq_zero h2⟩
  · refine .inr ⟨g, hb, (Array.getElem?_eq_some_iff.1 hg).1, .inr ⟨0, cap, rfl, hn, fun j hj => ?_⟩⟩
    rw [Nat.zero_add, h.cellAt j (by omega)]
    simp [ints, lim, List.getElem?_eq_getElem hj]
/-- v reads as the digits xs -/
def IArg (W : World) (v : Value) (xs : List Nat) : Prop := ∃ S, S < W.heap.size ∧ IAt S W v xs
set_option maxRecDepth 100000 in
theorem IArg.behind {w w' : World} {v : Value} {xs : List Nat} (h : IArg w v xs) (hb : Below w.heap.size w w') : IArg w' v xs := by
  obtain ⟨b, h1, h2⟩ := h
  exact ⟨b, Nat.lt_of_lt_of_le h1 hb.size, h2.kept (hb.block b h1)⟩
set_option maxRecDepth 100000 in
/-- what a loop has collected, as it is handed on -/
theorem own_arg {W : World} {base m b : Nat} {v : Value} {xs : List Nat} (h : W.ownsRow base 3 1 v m (ints xs)) (hb : b < W.heap.size) : IArg W v xs := by
  rcases (own_ints h).2 with ⟨h1, h2⟩ | ⟨S, _, h2, h3⟩
  · exact ⟨b, hb, .inl ⟨⟨_, _, h1⟩, h2⟩⟩
  · exact ⟨S, h2, h3⟩

end Go.Proofs.Ytjapilpjahhimaa

/- vernierref01.Bits: how many bits one of the document's own naturals has. -/
namespace Go.Proofs.Ytjapilpjahhimaa
open Go.RowKit Go.Shelf

end Go.Proofs.Ytjapilpjahhimaa

/- vernierref01.Limbs: digits of 16 bits, as words. -/
namespace Go.Proofs.Ytjapilpjahhimaa
open Go.RowKit Go.Shelf

def acc (xs : List Nat) (q : Nat) : Nat → Nat
  | 0 => 0
  | s + 1 => acc xs q s * 65536 + lim xs (4 * q + (3 - s))
/-- the word that four digits are -/
def lm (xs : List Nat) (q : Nat) : Nat := acc xs q 4
def words (xs : List Nat) (n : Nat) : List Nat := (List.range n).map (lm xs)
set_option maxRecDepth 100000 in
theorem words_succ (xs : List Nat) (n : Nat) : words xs (n + 1) = words xs n ++ [lm xs n] := by simp [words, List.range_succ]
set_option maxRecDepth 100000 in
theorem words_length (xs : List Nat) (n : Nat) : (words xs n).length = n := by simp [words]
set_option maxRecDepth 100000 in
theorem lim_words {xs : List Nat} {n i : Nat} (h : i < n) : lim (words xs n) i = lm xs i := by simp [lim, words, h]
set_option maxRecDepth 100000 in
theorem lm_eq (xs : List Nat) (q : Nat) : lm xs q = lim xs (4 * q) + 65536 * lim xs (4 * q + 1) + 4294967296 * lim xs (4 * q + 2) + 281474976710656 * lim xs (4 * q + 3) := by
  simp only [lm, acc]
  simp only [Nat.sub_self, Nat.add_zero, show 3 - 0 = 3 from rfl, show 3 - 1 = 2 from rfl, show 3 - 2 = 1 from rfl]
  omega
set_option maxRecDepth 100000 in
theorem acc_lt {xs : List Nat} (h : Low 65536 xs) (q : Nat) : acc xs q 0 < 1 ∧ acc xs q 1 < 65536 ∧ acc xs q 2 < 4294967296 ∧ acc xs q 3 < 281474976710656 ∧ acc xs q 4 < 18446744073709551616 := by
  have h0 := lim_lt h (by decide) (4 * q + (3 - 0))
  have h1 := lim_lt h (by decide) (4 * q + (3 - 1))
  have h2 := lim_lt h (by decide) (4 * q + (3 - 2))
  have h3 := lim_lt h (by decide) (4 * q + (3 - 3))
  simp only [acc]
  omega
set_option maxRecDepth 100000 in
theorem words_part {xs : List Nat} (n i : Nat) (hi : i ≤ n) : part 18446744073709551616 (words xs n) i = part 65536 xs (4 * i) := by
  induction i with
  | zero => rfl
  | succ i ih =>
    have e : 18446744073709551616 ^ i = 65536 ^ (4 * i) := by rw [Nat.pow_mul]
    rw [part, ih (by omega), lim_words (by omega), show 4 * (i + 1) = 4 * i + 1 + 1 + 1 + 1 by omega, part, part, part, part, lm_eq, e]
    have p1 : 65536 ^ (4 * i + 1) = 65536 ^ (4 * i) * 65536 := Nat.pow_succ _ _
    have p2 : 65536 ^ (4 * i + 1 + 1) = 65536 ^ (4 * i) * 4294967296 := by rw [Nat.pow_succ, p1, Nat.mul_assoc]
    have p3 : 65536 ^ (4 * i + 1 + 1 + 1) = 65536 ^ (4 * i) * 281474976710656 := by rw [Nat.pow_succ, p2, Nat.mul_assoc]
    rw [p1, p2, p3, Nat.mul_add, Nat.mul_add, Nat.mul_add, Nat.mul_assoc, Nat.mul_assoc, Nat.mul_assoc]
    omega
set_option maxRecDepth 100000 in
theorem words_low {xs : List Nat} (h : Low 65536 xs) (n : Nat) : Low 18446744073709551616 (words xs n) := by
  intro x hx
  obtain ⟨q, _, rfl⟩ := List.mem_map.1 hx
  exact (acc_lt h q).2.2.2.2
set_option maxRecDepth 100000 in
theorem words_digs {N n : Nat} (h1 : (digs 65536 N).length ≤ 4 * n) (h2 : 4 * n < (digs 65536 N).length + 4) : words (digs 65536 N) n = digs 18446744073709551616 N := by
  have hlow := digs_low (B := 65536) (by decide) N
  have hval : val 18446744073709551616 (words (digs 65536 N) n) = N := by
    rw [← part_all, words_length, words_part n n (Nat.le_refl _), part_ge _ _ _ h1, val_digs (by decide)]
  have hcut : cutz (words (digs 65536 N) n) = words (digs 65536 N) n := by
    cases n with
    | zero => rfl
    | succ m =>
      rw [words_succ]
      refine cutz_snoc ?_
      have hne : digs 65536 N ≠ [] := by intro h; rw [h] at h2; simp at h2; omega
      have ht := cutz_top (cutz_digs (B := 65536) (by decide) N) hne
      have hl : 0 < (digs 65536 N).length := List.length_pos_iff.2 hne
      intro h0
      rw [lm_eq] at h0
      have : (digs 65536 N).length - 1 = 4 * m ∨ (digs 65536 N).length - 1 = 4 * m + 1 ∨ (digs 65536 N).length - 1 = 4 * m + 2 ∨ (digs 65536 N).length - 1 = 4 * m + 3 := by omega
      rcases this with e | e | e | e <;> rw [e] at ht <;> omega
  rw [← hcut, cutz_eq_digs (by decide) (words_low hlow n), hval]

set_option maxRecDepth 100000 in
theorem cast_mul16 (X : Nat) : (X : Int) * 65536 = ((X * 65536 : Nat) : Int) := by omega
def wordsV (xs : List Nat) : List Value := xs.map fun (x : Nat) => Value.int .u64 (x : Int)

end Go.Proofs.Ytjapilpjahhimaa

/- vernierref01.Add: the document's own sum. -/
namespace Go.Proofs.Ytjapilpjahhimaa
open Go.RowKit Go.Shelf

/-- the digits of a sum, one by one: (what has been told, what is carried) -/
def sum16 (P Q : List Nat) : Nat → List Nat × Nat
  | 0 => ([], 0)
  | k + 1 => ((sum16 P Q k).1 ++ [((sum16 P Q k).2 + lim P k + lim Q k) % 65536], ((sum16 P Q k).2 + lim P k + lim Q k) / 65536)
set_option maxRecDepth 100000 in
theorem sum16_fine {P Q : List Nat} (hP : Low 65536 P) (hQ : Low 65536 Q) (k : Nat) : (sum16 P Q k).1.length = k ∧ (sum16 P Q k).2 ≤ 1 ∧ Low 65536 (sum16 P Q k).1 ∧
    val 65536 (sum16 P Q k).1 + 65536 ^ k * (sum16 P Q k).2 = part 65536 P k + part 65536 Q k := by
  induction k with
  | zero => exact ⟨rfl, by simp [sum16], (by intro x hx; cases hx), by simp [sum16, val, part]⟩
  | succ k ih =>
    obtain ⟨h1, h2, h3, h4⟩ := ih
    have hp := lim_lt hP (by decide) k
    have hq := lim_lt hQ (by decide) k
    simp only [sum16]
    generalize sum16 P Q k = s at h1 h2 h3 h4 ⊢
    refine ⟨by simp [h1], by omega, ?_, ?_⟩
    · intro x hx
      rcases List.mem_append.1 hx with h | h
      · exact h3 x h
      · simp at h; subst h; exact Nat.mod_lt _ (by decide)
    · rw [val_append, h1]
      simp only [val, part, Nat.mul_zero, Nat.add_zero]
      have hd : (s.2 + lim P k + lim Q k) % 65536 + 65536 * ((s.2 + lim P k + lim Q k) / 65536) = s.2 + lim P k + lim Q k := Nat.mod_add_div _ _
      have hm := congrArg (65536 ^ k * ·) hd
      simp only [Nat.mul_add, ← Nat.mul_assoc] at hm
      rw [Nat.pow_succ]
      omega
set_option maxRecDepth 100000 in
theorem sum16_digs {M N k : Nat} (h1 : (digs 65536 M).length ≤ k) (h2 : (digs 65536 N).length ≤ k) (h0 : (sum16 (digs 65536 M) (digs 65536 N) k).2 = 0) : cutz (sum16 (digs 65536 M) (digs 65536 N) k).1 = digs 65536 (M + N) := by
  obtain ⟨_, _, f3, f4⟩ := sum16_fine (digs_low (B := 65536) (by decide) M) (digs_low (B := 65536) (by decide) N) k
  rw [h0, part_ge _ _ _ h1, part_ge _ _ _ h2, val_digs (by decide), val_digs (by decide)] at f4
  rw [cutz_eq_digs (by decide) f3]
  congr 1

end Go.Proofs.Ytjapilpjahhimaa

/- vernierref01.Cmp: how two of the document's own naturals stand. -/
namespace Go.Proofs.Ytjapilpjahhimaa
open Go.RowKit Go.Shelf

end Go.Proofs.Ytjapilpjahhimaa

/- vernierref01.Sub: how far two of the document's own naturals are apart. -/
namespace Go.Proofs.Ytjapilpjahhimaa
open Go.RowKit Go.Shelf

/-- the digits of a difference, one by one: (what has been told, what is borrowed) -/
def dif16 (P Q : List Nat) : Nat → List Nat × Nat
  | 0 => ([], 0)
  | k + 1 => ((dif16 P Q k).1 ++ [(lim P k + 65536 - lim Q k - (dif16 P Q k).2) % 65536], if lim P k < lim Q k + (dif16 P Q k).2 then 1 else 0)
set_option maxRecDepth 100000 in
theorem dif16_fine {P Q : List Nat} (hP : Low 65536 P) (hQ : Low 65536 Q) (k : Nat) : (dif16 P Q k).1.length = k ∧ (dif16 P Q k).2 ≤ 1 ∧ Low 65536 (dif16 P Q k).1 ∧
    val 65536 (dif16 P Q k).1 + part 65536 Q k = part 65536 P k + 65536 ^ k * (dif16 P Q k).2 := by
  induction k with
  | zero => exact ⟨rfl, by simp [dif16], (by intro x hx; cases hx), by simp [dif16, val, part]⟩
  | succ k ih =>
    obtain ⟨h1, h2, h3, h4⟩ := ih
    have hp := lim_lt hP (by decide) k
    have hq := lim_lt hQ (by decide) k
    simp only [dif16]
    generalize dif16 P Q k = s at h1 h2 h3 h4 ⊢
    refine ⟨by simp [h1], by split <;> omega, ?_, ?_⟩
    · intro x hx
      rcases List.mem_append.1 hx with h | h
      · exact h3 x h
      · simp at h; subst h; exact Nat.mod_lt _ (by decide)
    · rw [val_append, h1]
      simp only [val, part, Nat.mul_zero, Nat.add_zero]
      have hd : (lim P k + 65536 - lim Q k - s.2) % 65536 + lim Q k + s.2 = lim P k + 65536 * (if lim P k < lim Q k + s.2 then 1 else 0) := by
        split <;> omega
      have hm := congrArg (65536 ^ k * ·) hd
      simp only [Nat.mul_add, ← Nat.mul_assoc] at hm
      rw [Nat.pow_succ]
      omega
set_option maxRecDepth 100000 in
theorem dif16_digs {M N : Nat} (h : N ≤ M) : cutz (dif16 (digs 65536 M) (digs 65536 N) (digs 65536 M).length).1 = digs 65536 (M - N) := by
  have hP := digs_low (B := 65536) (by decide) M
  have hQ := digs_low (B := 65536) (by decide) N
  obtain ⟨f1, f2, f3, f4⟩ := dif16_fine hP hQ (digs 65536 M).length
  have hl : (digs 65536 N).length ≤ (digs 65536 M).length := low_length_le (B := 65536) (by decide) hP (cutz_digs (by decide) N) (by rw [val_digs (by decide), val_digs (by decide)]; exact h)
  rw [part_all, part_ge _ _ _ hl, val_digs (by decide), val_digs (by decide)] at f4
  have h2 := val_lt f3 (by decide)
  rw [f1] at h2
  rw [cutz_eq_digs (by decide) f3]
  generalize dif16 (digs 65536 M) (digs 65536 N) (digs 65536 M).length = s at *
  have h3 : s.2 = 0 ∨ s.2 = 1 := by omega
  rcases h3 with h3 | h3
  · rw [h3] at f4
    congr 1
    omega
  · rw [h3] at f4
    omega

set_option maxRecDepth 100000 in
theorem tmod16 (X : Int) (h1 : -65537 ≤ X) (h2 : X ≤ 65536) : (wrap64 (X.tmod 65536 + 65536)).tmod 65536 = X % 65536 := by
  have hb := Int.tmod_lt_of_pos X (b := 65536) (by decide)
  rcases Int.lt_or_le X 0 with h | h
  · have e : X.tmod 65536 = -((-X) % 65536) := by
      rw [show X = -(-X) by omega, Int.neg_tmod, Int.tmod_eq_emod_of_nonneg (by omega)]
      simp
    rw [e, IntWalk.wrap64_in _ (by omega), Int.tmod_eq_emod_of_nonneg (by omega)]
    omega
  · rw [Int.tmod_eq_emod_of_nonneg h, IntWalk.wrap64_in _ (by omega), Int.tmod_eq_emod_of_nonneg (by omega)]
    omega
set_option maxRecDepth 100000 in
theorem tdiv16 (b : Nat) : (-(65536 * (b : Int))).tdiv 65536 = -(b : Int) := by
  rw [Int.neg_tdiv, Int.mul_tdiv_cancel_left _ (by decide)]
set_option maxRecDepth 100000 in
theorem dif_fit {p q C : Nat} (hp : p < 65536) (hq : q < 65536) (hC : C ≤ 1) :
    (wrap64 ((-(C : Int) + p - q).tmod 65536 + 65536)).tmod 65536 = (((p + 65536 - q - C) % 65536 : Nat) : Int) ∧
      (-(C : Int) + p - q - (((p + 65536 - q - C) % 65536 : Nat) : Int)).tdiv 65536 = -((if p < q + C then 1 else 0 : Nat) : Int) := by
  rw [tmod16 _ (by omega) (by omega)]
  refine ⟨by omega, ?_⟩
  have e : -(C : Int) + p - q - (((p + 65536 - q - C) % 65536 : Nat) : Int) = -(65536 * ((if p < q + C then 1 else 0 : Nat) : Int)) := by split <;> omega
  rw [e, tdiv16]

end Go.Proofs.Ytjapilpjahhimaa

/- vernierref01.Mul: the document's own product. -/
namespace Go.Proofs.Ytjapilpjahhimaa
open Go.RowKit Go.Shelf

/-- one row of a product, digit by digit: (the digits, what is carried) -/
def row16 (Q : List Nat) (x off : Nat) (s : List Nat) : Nat → List Nat × Nat
  | 0 => (s, 0)
  | k + 1 => ((row16 Q x off s k).1.set (off + k) (((row16 Q x off s k).2 + lim (row16 Q x off s k).1 (off + k) + x * lim Q k) % 65536), ((row16 Q x off s k).2 + lim (row16 Q x off s k).1 (off + k) + x * lim Q k) / 65536)
set_option maxRecDepth 100000 in
theorem mul16_le {x y : Nat} (hx : x < 65536) (hy : y < 65536) : x * y ≤ 4294836225 := Nat.mul_le_mul (show x ≤ 65535 by omega) (show y ≤ 65535 by omega)
set_option maxRecDepth 100000 in
theorem row16_fine {Q s : List Nat} {x : Nat} (off : Nat) (hQ : Low 65536 Q) (hs : Low 65536 s) (hx : x < 65536) (k : Nat) :
    (row16 Q x off s k).1.length = s.length ∧ (row16 Q x off s k).2 < 65536 ∧ Low 65536 (row16 Q x off s k).1 ∧ (∀ i, off + k ≤ i → lim (row16 Q x off s k).1 i = lim s i) := by
  induction k with
  | zero => exact ⟨rfl, by simp [row16], hs, fun _ _ => rfl⟩
  | succ k ih =>
    obtain ⟨h1, h2, h3, h4⟩ := ih
    have hm := mul16_le hx (lim_lt hQ (by decide) k)
    have ho := lim_lt h3 (by decide) (off + k)
    simp only [row16]
    generalize row16 Q x off s k = r at *
    refine ⟨by simp [h1], by omega, low_set h3 (Nat.mod_lt _ (by decide)), fun i hi => ?_⟩
    rw [lim_set, if_neg (by omega)]
    exact h4 i (by omega)
set_option maxRecDepth 100000 in
theorem row16_range {Q s : List Nat} {x off : Nat} (hQ : Low 65536 Q) (hs : Low 65536 s) (hx : x < 65536) (k : Nat) (hk : off + k ≤ s.length) :
    part 65536 (row16 Q x off s k).1 (off + k) + 65536 ^ (off + k) * (row16 Q x off s k).2 = part 65536 s (off + k) + 65536 ^ off * (x * part 65536 Q k) := by
  induction k with
  | zero => simp [part, row16]
  | succ k ih =>
    have hi := ih (by omega)
    obtain ⟨f1, f2, f3, f4⟩ := row16_fine off hQ hs hx k
    have hsk := f4 (off + k) (Nat.le_refl _)
    simp only [row16]
    generalize row16 Q x off s k = r at *
    rw [show off + (k + 1) = off + k + 1 by omega]
    simp only [part]
    rw [part_set_ge (Nat.le_refl _), lim_set, if_pos ⟨rfl, by omega⟩, hsk]
    have hb : (r.2 + lim s (off + k) + x * lim Q k) % 65536 + 65536 * ((r.2 + lim s (off + k) + x * lim Q k) / 65536) = r.2 + lim s (off + k) + x * lim Q k := Nat.mod_add_div _ _
    generalize (r.2 + lim s (off + k) + x * lim Q k) % 65536 = d at hb ⊢
    generalize (r.2 + lim s (off + k) + x * lim Q k) / 65536 = c at hb ⊢
    have hm := congrArg (65536 ^ (off + k) * ·) hb
    simp only [Nat.mul_add] at hm
    have h1 : 65536 ^ (off + k + 1) * c = 65536 ^ (off + k) * (65536 * c) := by rw [Nat.pow_succ, Nat.mul_assoc]
    have h2 : 65536 ^ off * (x * (part 65536 Q k + 65536 ^ k * lim Q k)) = 65536 ^ off * (x * part 65536 Q k) + 65536 ^ (off + k) * (x * lim Q k) := by
      rw [Nat.mul_add x, Nat.mul_add]
      congr 1
      rw [Nat.pow_add, Nat.mul_assoc (65536 ^ off), Nat.mul_left_comm x]
    rw [h1, h2]
    omega
set_option maxRecDepth 100000 in
theorem val_same_above {B : Nat} {xs ys : List Nat} (hl : xs.length = ys.length) {m : Nat} (h : ∀ i, m ≤ i → lim xs i = lim ys i) : val B xs + part B ys m = val B ys + part B xs m := by
  rcases Nat.le_total xs.length m with hm | hm
  · rw [part_ge B xs m hm, part_ge B ys m (by omega)]
    omega
  · have key : ∀ t, part B xs (m + t) + part B ys m = part B ys (m + t) + part B xs m := by
      intro t
      induction t with
      | zero => simp; omega
      | succ t ih => rw [show m + (t + 1) = m + t + 1 by omega, part, part, h (m + t) (by omega)]; omega
    have := key (xs.length - m)
    rw [show m + (xs.length - m) = xs.length by omega, part_all] at this
    rw [hl, part_all] at this
    exact this
set_option maxRecDepth 100000 in
theorem row16_end {Q s : List Nat} {x off : Nat} (hQ : Low 65536 Q) (hs : Low 65536 s) (hx : x < 65536) (k : Nat) (hk : off + k ≤ s.length) (hkQ : Q.length ≤ k) (h0 : (row16 Q x off s k).2 = 0) :
    val 65536 (row16 Q x off s k).1 = val 65536 s + 65536 ^ off * (x * val 65536 Q) := by
  have h1 := row16_range hQ hs hx k hk
  obtain ⟨f1, f2, f3, f4⟩ := row16_fine off hQ hs hx k
  have h2 := val_same_above (B := 65536) f1 f4
  rw [h0, part_ge _ Q k hkQ] at h1
  omega
/-- what holds of the digits when i rows are in -/
def Mul16 (P Q : List Nat) (i : Nat) (s : List Nat) : Prop := s.length = P.length + Q.length + 1 ∧ Low 65536 s ∧ val 65536 s = part 65536 P i * val 65536 Q ∧ ∀ j, i + Q.length ≤ j → lim s j = 0
set_option maxRecDepth 100000 in
theorem mul16_zero (P Q : List Nat) : Mul16 P Q 0 (List.replicate (P.length + Q.length + 1) 0) :=
  ⟨by simp, low_rep (by decide), by rw [val_zeros _ _ (fun x hx => List.eq_of_mem_replicate hx)]; simp [part], fun j _ => by simp [lim, List.getElem?_replicate]; split <;> rfl⟩
set_option maxRecDepth 100000 in
theorem mul16_step {P Q s : List Nat} {i k : Nat} (hP : Low 65536 P) (hQ : Low 65536 Q) (h : Mul16 P Q i s) (hi : i < P.length) (hk1 : Q.length ≤ k) (hk2 : k ≤ Q.length + 1) (h0 : (row16 Q (lim P i) i s k).2 = 0) : Mul16 P Q (i + 1) (row16 Q (lim P i) i s k).1 := by
  obtain ⟨g1, g2, g3, g4⟩ := h
  have hx := lim_lt hP (by decide) i
  obtain ⟨f1, f2, f3, f4⟩ := row16_fine (s := s) i hQ g2 hx k
  refine ⟨by omega, f3, ?_, fun j hj => ?_⟩
  · rw [row16_end hQ g2 hx k (by omega) hk1 h0, g3, part, Nat.add_mul, Nat.mul_assoc]
  · rw [f4 j (by omega)]
    exact g4 j (by omega)
set_option maxRecDepth 100000 in
theorem mul16_digs {M N : Nat} {s : List Nat} (h : Mul16 (digs 65536 M) (digs 65536 N) (digs 65536 M).length s) : cutz s = digs 65536 (M * N) := by
  obtain ⟨_, g2, g3, _⟩ := h
  rw [cutz_eq_digs (by decide) g2, g3, part_all, val_digs (by decide), val_digs (by decide)]

set_option maxRecDepth 100000 in
theorem Row.drewN {k : IntKind} {t : TypeId} {W : World} {S : Nat} {s : List Nat} (h : Row k t W S s) (q : Nat) : Row k t (W.drewN q) S s := h
set_option maxRecDepth 100000 in
theorem Row.iat {t : TypeId} {W : World} {S : Nat} {s : List Nat} (h : Row .i64 t W S s) (cap : Nat) (hc : s.length ≤ cap) : IAt S W (.slice (some ⟨S, 0, none⟩) s.length cap) s :=
  .inr ⟨0, cap, rfl, hc, fun j hj => by rw [Nat.zero_add]; exact h.cell hj⟩
def Inner (Q s : List Nat) (x i k C : Nat) (st : List Nat) : Prop := row16 Q x i s k = (st, C)

end Go.Proofs.Ytjapilpjahhimaa

/- The document's own naturals, said of numbers; and more of the program's calls, said of numbers. -/
namespace Go.Proofs.Ytjapilpjahhimaa
open Go.RowKit Go.Shelf

/-- v is told as the number N of the document's own, in at most k digits -/
def RN (w : World) (v : Value) (N k : Nat) : Prop := IArg w v (digs 65536 N) ∧ N < 65536 ^ k
set_option maxRecDepth 100000 in
theorem RN.behind {w w' : World} {v : Value} {N k : Nat} (h : RN w v N k) (hb : Below w.heap.size w w') : RN w' v N k := ⟨h.1.behind hb, h.2⟩
set_option maxRecDepth 100000 in
theorem RN.len {w : World} {v : Value} {N k : Nat} (h : RN w v N k) : (digs 65536 N).length ≤ k := digs_length (by decide) h.2
set_option maxRecDepth 100000 in
theorem RN.slice {w : World} {v : Value} {N k : Nat} (h : RN w v N k) : ∃ a cap, v = .slice a (digs 65536 N).length cap ∧ (digs 65536 N).length ≤ cap := by
  obtain ⟨⟨S, _, h2⟩, _⟩ := h
  obtain ⟨a, cap, e, h3, _⟩ := h2.slice
  exact ⟨a, cap, e, h3⟩
set_option maxRecDepth 100000 in
theorem pow16_64 (k : Nat) : 18446744073709551616 ^ k = 65536 ^ (4 * k) := by rw [Nat.pow_mul]
set_option maxRecDepth 100000 in
theorem rpow_add_lt {M N i j : Nat} (hM : M < 65536 ^ i) (hN : N < 65536 ^ j) : M + N < 65536 ^ (i + j + 1) := by
  have h1 : 65536 ^ i ≤ 65536 ^ (i + j) := Nat.pow_le_pow_right (by decide) (by omega)
  have h2 : 65536 ^ j ≤ 65536 ^ (i + j) := Nat.pow_le_pow_right (by decide) (by omega)
  rw [Nat.pow_succ]
  omega
set_option maxRecDepth 100000 in
theorem rpow_mul_lt {M N i j : Nat} (hM : M < 65536 ^ i) (hN : N < 65536 ^ j) : M * N < 65536 ^ (i + j) := by
  rw [Nat.pow_add]
  exact Nat.mul_lt_mul'' hM hN
set_option maxRecDepth 100000 in
theorem rpow_dist_lt {M N i j : Nat} (hM : M < 65536 ^ i) (hN : N < 65536 ^ j) : dist M N < 65536 ^ (i + j) := by
  have h1 : 65536 ^ i ≤ 65536 ^ (i + j) := Nat.pow_le_pow_right (by decide) (by omega)
  have h2 : 65536 ^ j ≤ 65536 ^ (i + j) := Nat.pow_le_pow_right (by decide) (by omega)
  unfold dist
  omega
section
variable {va vb : Value} {M N i j : Nat} {w : World}
end
end Go.Proofs.Ytjapilpjahhimaa
