/- fmul: what its calls keep. -/
import Derived.Test.YtjljmccdlkdgoaaPaOne
import Derived.Test.YtjljmccdlkdgoaaFmNum
import Derived.Test.YtjljmccdlkdgoaaStk
import Derived.Test.YtjljmccdlkdgoaaBits
import Derived.Laws.Bits64
namespace Go.Proofs.Ytjljmccdlkdgoaa
open Go.RowKit Go.Shelf

theorem xor_sign {a b : Nat} (ha : a < 18446744073709551616) (hb : b < 18446744073709551616) :
    ∃ X : Nat, bits .xor .u64 (a : Int) (b : Int) = (X : Int) ∧ X < 18446744073709551616 ∧ (((X : Int) / 9223372036854775808) != 0) = (neg6 a != neg6 b) := by
  have h := bits_xor_u64_nat a b ha hb
  have h1 := Nat.xor_div_two_pow (a := a) (b := b) (n := 63)
  have h2 : a ^^^ b < 2 ^ 64 := Nat.xor_lt_two_pow ha hb
  rw [show (2 : Nat) ^ 63 = 9223372036854775808 from rfl] at h1
  refine ⟨a ^^^ b, h, h2, ?_⟩
  generalize a ^^^ b = X at *
  have hx : (X : Int) / 9223372036854775808 = ((X / 9223372036854775808 : Nat) : Int) := by omega
  rw [hx, h1]
  have ha1 : a / 9223372036854775808 = if neg6 a then 1 else 0 := by
    unfold neg6
    by_cases c : (9223372036854775808 : Int) ≤ (a : Int)
    · rw [decide_eq_true c, if_pos rfl]; omega
    · rw [decide_eq_false c, if_neg Bool.false_ne_true]; omega
  have hb1 : b / 9223372036854775808 = if neg6 b then 1 else 0 := by
    unfold neg6
    by_cases c : (9223372036854775808 : Int) ≤ (b : Int)
    · rw [decide_eq_true c, if_pos rfl]; omega
    · rw [decide_eq_false c, if_neg Bool.false_ne_true]; omega
  rw [ha1, hb1]
  cases neg6 a <;> cases neg6 b <;> rfl
theorem mul_words {x y : Nat} : mulHi x y * 18446744073709551616 + mulLo x y = x * y := by
  unfold mulHi mulLo
  rw [Nat.mul_comm (x * y / 18446744073709551616)]
  exact Nat.div_add_mod _ _
theorem mulLo_le {x y : Nat} : (mulLo x y : Int) ≤ 18446744073709551615 := by
  have h : mulLo x y < 18446744073709551616 := Nat.mod_lt _ (by decide)
  omega
theorem mulHi_le {x y : Nat} (hx : x < 18446744073709551616) (hy : y < 18446744073709551616) : (mulHi x y : Int) ≤ 18446744073709551615 := by
  have h : mulHi x y < 18446744073709551616 := Nat.div_lt_of_lt_mul (Nat.mul_lt_mul'' hx hy)
  omega
end Go.Proofs.Ytjljmccdlkdgoaa
