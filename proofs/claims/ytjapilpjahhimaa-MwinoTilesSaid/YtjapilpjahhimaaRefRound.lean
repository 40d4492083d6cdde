/- vernierref06.Round and what it calls: the document's own rounding. -/
import Derived.Test.YtjapilpjahhimaaRefShl
import Derived.Test.YtjapilpjahhimaaRnd
import Derived.Deep.DeepCutAuto
import Derived.Deep.CutBlock
namespace Go.Proofs.Ytjapilpjahhimaa
open Go.RowKit Go.Shelf

theorem sgn_le (neg : Bool) : sgn neg ≤ 9223372036854775808 := by unfold sgn; split <;> omega
theorem RN.le {w : World} {v : Value} {N k k' : Nat} (h : RN w v N k) (hk : k ≤ k') : RN w v N k' := h.re (Nat.lt_of_lt_of_le h.2 (Nat.pow_le_pow_right (by decide) hk))
/-- what the loop holds -/
def Rel6 (exp : Int) (num den i j : Nat) (a b c e : Value) (w0 wx : World) : Prop :=
  RN wx a num i ∧ RN wx b den j ∧ c = .int .i64 exp ∧ e = .int .i64 (rfrom num den exp) ∧ 0 < num ∧ 0 < den ∧ -40000 ≤ exp ∧ exp ≤ 40000 ∧ -3000 ≤ rlen num den exp ∧ rlen num den exp ≤ 2000 ∧ Below w0.heap.size w0 wx
def Lp6 (num den i j : Nat) (exp : Int) (e q r d t : Value) (w0 wr : World) : Prop :=
  Below w0.heap.size w0 wr ∧ ((t = .int .i64 0 ∧ q = .int .u64 0 ∧ r = .slice none 0 0 ∧ d = .slice none 0 0 ∧ e = .int .i64 (rfrom num den exp)) ∨
  ∃ (T n : Nat) (E z : Int), T ≤ 2 ∧ t = .int .i64 z ∧ z = (T : Int) + 1 ∧ E = rfrom num den exp + T ∧ e = .int .i64 E ∧ q = .int .u64 (n : Int) ∧ n = qat num den exp E ∧ n < 36028797018963968 ∧ RN wr r (rst num den (exp - E)) (i + 4098) ∧ RN wr d (lower den (exp - E)) (j + 4098) ∧ (1 ≤ T → 9007199254740992 ≤ qat num den exp (rfrom num den exp)) ∧ (2 ≤ T → 9007199254740992 ≤ qat num den exp (rfrom num den exp + 1)))
theorem digs_some (R : Nat) : decide (0 < (digs 65536 R).length) = decide (R ≠ 0) := by
  by_cases h : R = 0
  · subst h; rw [digs_zero]; rfl
  · rw [digs_pos (by decide) h, decide_eq_true h]
    exact decide_eq_true (by simp only [List.length_cons]; omega)
theorem cmpN_dec (a b : Nat) : decide (cmpN a b < 0) = decide (a < b) := by
  unfold cmpN
  by_cases h : a < b
  · rw [if_pos h, decide_eq_true h]; rfl
  · rw [if_neg h, decide_eq_false h]
    split <;> rfl
theorem cmpN_three (a b : Nat) : cmpN a b = -1 ∨ cmpN a b = 0 ∨ cmpN a b = 1 := by
  unfold cmpN
  split
  · exact .inl rfl
  · split
    · exact .inr (.inr rfl)
    · exact .inr (.inl rfl)
/-- what the loop leaves -/
def Ex6 (num den i j : Nat) (exp : Int) (e q r d : Value) (w0 wr : World) : Prop :=
  ∃ (n : Nat) (E : Int), e = .int .i64 E ∧ q = .int .u64 (n : Int) ∧ E = rexp num den exp ∧ n = qat num den exp E ∧ RN wr r (rst num den (exp - E)) (i + 4098) ∧ RN wr d (lower den (exp - E)) (j + 4098) ∧ Below w0.heap.size w0 wr
end Go.Proofs.Ytjapilpjahhimaa
