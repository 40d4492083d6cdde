/- Views: plain numbers. No program is named here. -/
import Derived.Test.YtdcebkhdnhdejaaArg
namespace Go.Proofs.Ytdcebkhdnhdejaa

/-- where the last place is -/
def lastW (R C S O : Int) : Int := O + (R - 1) * S + C - 1
/-- may a view be, of so many words? -/
def mayW (R C S O words : Int) : Bool := decide (0 ≤ R ∧ R ≤ 64 ∧ 0 ≤ C ∧ C ≤ 64 ∧ C ≤ S ∧ S ≤ 1048576 ∧ 0 ≤ O ∧ O ≤ 1048576 ∧ (R = 0 ∨ C = 0 ∨ lastW R C S O < words))
theorem mayW_iff {R C S O words : Int} : mayW R C S O words = true ↔ 0 ≤ R ∧ R ≤ 64 ∧ 0 ≤ C ∧ C ≤ 64 ∧ C ≤ S ∧ S ≤ 1048576 ∧ 0 ≤ O ∧ O ≤ 1048576 ∧ (R = 0 ∨ C = 0 ∨ lastW R C S O < words) := by
  unfold mayW
  exact decide_eq_true_iff
/-- does a part reach beyond? -/
def outP (R C i j rows cols : Int) : Bool := decide (i < 0 ∨ j < 0 ∨ rows < 0 ∨ cols < 0 ∨ R < i ∨ C < j ∨ R - i < rows ∨ C - j < cols)
/-- the word at a place -/
def getW (xs : List Nat) (m : Nat) (R C S O i j : Int) : Nat :=
  if mayW R C S O m = true ∧ 0 ≤ i ∧ i < R ∧ 0 ≤ j ∧ j < C then lim xs (O + i * S + j).toNat else 0
/-- a product, within bounds -/
theorem wmul_in {a b x y : Int} (h0 : 0 ≤ a) (h1 : a ≤ x) (k0 : 0 ≤ b) (k1 : b ≤ y) : 0 ≤ a * b ∧ a * b ≤ x * y :=
  ⟨Int.mul_nonneg h0 k0, Int.mul_le_mul h1 k1 k0 (Int.le_trans h0 h1)⟩
/-- a part's place is the view's -/
theorem part_place {R C S O i j rows cols r c : Int} {xs : List Nat} {m : Nat} (hv : mayW R C S O 1048576 = true) (hm : mayW R C S O m = true) (ho : outP R C i j rows cols = false) (h1 : 0 ≤ r) (h2 : r < rows) (h3 : 0 ≤ c) (h4 : c < cols) :
    getW xs m rows cols S (O + i * S + j) r c = getW xs m R C S O (i + r) (j + c) := by
  obtain ⟨a1, a2, a3, a4, a5, a6, a7, a8, a9⟩ := mayW_iff.1 hv
  obtain ⟨b1, b2, b3, b4, b5, b6, b7, b8, b9⟩ := mayW_iff.1 hm
  unfold outP at ho
  rw [decide_eq_false_iff_not] at ho
  simp only [not_or, Int.not_lt] at ho
  obtain ⟨o1, o2, o3, o4, o5, o6, o7, o8⟩ := ho
  unfold lastW at a9 b9
  have e1 : i * S + (rows - 1) * S = (i + rows - 1) * S := by rw [← Int.add_mul]; congr 1; omega
  have e2 : (R - 1) * S = (i + rows - 1) * S + (R - i - rows) * S := by rw [← Int.add_mul]; congr 1; omega
  have e3 : i * S + r * S = (i + r) * S := by rw [← Int.add_mul]
  have n1 : 0 ≤ (R - i - rows) * S := Int.mul_nonneg (by omega) (by omega)
  have n2 : 0 ≤ i * S := Int.mul_nonneg (by omega) (by omega)
  have n3 : 0 ≤ (rows - 1) * S := Int.mul_nonneg (by omega) (by omega)
  have hp : mayW rows cols S (O + i * S + j) m = true := by
    refine mayW_iff.2 ⟨by omega, by omega, by omega, by omega, by omega, by omega, by omega, ?_, ?_⟩
    · rcases a9 with h | h | h
      · omega
      · omega
      · omega
    · right; right
      unfold lastW
      rcases b9 with h | h | h
      · omega
      · omega
      · omega
  unfold getW
  rw [if_pos ⟨hp, h1, h2, h3, h4⟩, if_pos ⟨hm, by omega, by omega, by omega, by omega⟩]
  congr 2
  rw [← e3]
  omega
end Go.Proofs.Ytdcebkhdnhdejaa
