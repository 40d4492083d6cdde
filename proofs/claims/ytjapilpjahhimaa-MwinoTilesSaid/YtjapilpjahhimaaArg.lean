/- Arguments that read as lists of words; nat's calls over them. -/
import Derived.Test.YtjapilpjahhimaaSub
import Derived.Test.YtjapilpjahhimaaAdd
import Derived.Test.YtjapilpjahhimaaSame
namespace Go.Proofs.Ytjapilpjahhimaa
open Go.RowKit Go.Shelf

theorem digs_length {B n k : Nat} (hB : 1 < B) (h : n < B ^ k) : (digs B n).length ≤ k := by
  induction k generalizing n with
  | zero =>
    have : n = 0 := by simpa using h
    subst this; rw [digs_zero]; simp
  | succ k ih =>
    by_cases hn : n = 0
    · subst hn; rw [digs_zero]; simp
    · rw [digs_pos hB hn, List.length_cons]
      have : n / B < B ^ k := by
        rw [Nat.div_lt_iff_lt_mul (by omega)]
        rwa [Nat.pow_succ] at h
      have := ih this
      omega
theorem digs_small {B n : Nat} (hB : 1 < B) (h0 : n ≠ 0) (h : n < B) : digs B n = [n] := by
  rw [digs_pos hB h0, Nat.mod_eq_of_lt h, Nat.div_eq_of_lt h, digs_zero]
theorem New.args {n : Nat} {W : World} {v : Value} {xs : List Nat} (h : New n W v xs) : ∃ S, S < W.heap.size ∧ RdAt S W v xs := by
  obtain ⟨S, h1, h2, _⟩ := h
  exact ⟨S, h2, h1⟩

theorem cmpN_bounds (a b : Nat) : -1 ≤ cmpN a b ∧ cmpN a b ≤ 1 := by
  unfold cmpN
  by_cases h1 : a < b
  · simp [h1]
  · by_cases h2 : b < a <;> simp [h1, h2]
theorem cmpN_neg (a b : Nat) : cmpN a b = -cmpN b a := by
  unfold cmpN
  rcases Nat.lt_trichotomy a b with h | h | h
  · simp [h]; omega
  · subst h; simp
  · simp [h]; omega

/-- an argument: it reads as xs, below the heap's end -/
def Arg (w : World) (v : Value) (xs : List Nat) : Prop := ∃ b, b < w.heap.size ∧ RdAt b w v xs
theorem Arg.behind {w w' : World} {v : Value} {xs : List Nat} (h : Arg w v xs) (hb : Below w.heap.size w w') : Arg w' v xs := by
  obtain ⟨b, h1, h2⟩ := h
  exact ⟨b, Nat.lt_of_lt_of_le h1 hb.size, h2.kept (hb.block b h1)⟩
theorem New.arg {n : Nat} {W : World} {v : Value} {xs : List Nat} (h : New n W v xs) : Arg W v xs := by
  obtain ⟨S, h1, h2, _⟩ := h
  exact ⟨S, h2, h1⟩
theorem below_both {w w1 w2 : World} (h1 : Below w.heap.size w w1) (h2 : Below w1.heap.size w1 w2) : Below w.heap.size w w2 := h1.trans (h2.mono h1.size)

section
variable {va vb : Value} {xs ys : List Nat} {w : World}
theorem same_arg (hA : Arg w va xs) (hB : Arg w vb xs) (hxl : xs.length ≤ 9223372036854775806) :
    Calls Try.prog 34 #[va, vb] w fun e W' => e = .returned (.bool true) ∧ Below w.heap.size w W' := by
  obtain ⟨ba, h1, h2⟩ := hA
  obtain ⟨bb, h3, h4⟩ := hB
  exact same_true ba bb va vb xs hxl w h2 h4
end
theorem Arg.slice {w : World} {v : Value} {xs : List Nat} (h : Arg w v xs) : ∃ a cap, v = .slice a xs.length cap := by
  obtain ⟨b, _, h⟩ := h
  obtain ⟨a, cap, e, _⟩ := h.slice
  exact ⟨a, cap, e⟩

end Go.Proofs.Ytjapilpjahhimaa
