/- Bits of ints: plain numbers. -/
import Derived.Test.YtaefalmabphadaaMoNum
import Derived.Test.YtaefalmabphadaaShCalls
import Derived.Laws.Bits64
namespace Go.Proofs.Ytaefalmabphadaa
open Go.RowKit Go.Shelf
theorem and1 (X : Int) : bits .and .i64 X 1 = X % 2 := by
  have h1 : ((BitVec.ofInt 64 X).toNat : Int) = X % 18446744073709551616 := by
    rw [BitVec.toNat_ofInt]
    have h := Int.emod_nonneg X (show (2 : Int) ^ 64 ≠ 0 by decide)
    exact Int.toNat_of_nonneg h
  have h2 : (BitVec.ofInt 64 (1 : Int)).toNat = 1 := by decide
  show IntKind.i64.wrap ((BitVec.ofInt 64 X &&& BitVec.ofInt 64 1).toNat : Int) = _
  rw [BitVec.toNat_and, h2, Nat.and_one_is_mod, IntKind.wrap_i64]
  generalize (BitVec.ofInt 64 X).toNat = t at *
  omega
theorem toNat_i64 {a : Nat} (ha : a < 18446744073709551616) : (BitVec.ofInt 64 (a : Int)).toNat = a := by
  rw [BitVec.toNat_ofInt]
  have h : (a : Int) % ((2 ^ 64 : Nat) : Int) = a := by
    rw [show ((2 ^ 64 : Nat) : Int) = 18446744073709551616 from rfl]; omega
  rw [h]; rfl
theorem or_i64 {a b : Nat} (ha : a < 9223372036854775808) (hb : b < 9223372036854775808) : bits .or .i64 (a : Int) (b : Int) = ((a ||| b : Nat) : Int) := by
  have h : a ||| b < 2 ^ 63 := Nat.or_lt_two_pow ha hb
  show IntKind.i64.wrap ((BitVec.ofInt 64 (a : Int) ||| BitVec.ofInt 64 (b : Int)).toNat : Int) = _
  rw [BitVec.toNat_or, toNat_i64 (by omega), toNat_i64 (by omega), IntKind.wrap_i64]
  generalize a ||| b = t at *
  omega
theorem and_i64 {a b : Nat} (ha : a < 9223372036854775808) (hb : b < 9223372036854775808) : bits .and .i64 (a : Int) (b : Int) = ((a &&& b : Nat) : Int) := by
  have h : a &&& b ≤ a := Nat.and_le_left
  show IntKind.i64.wrap ((BitVec.ofInt 64 (a : Int) &&& BitVec.ofInt 64 (b : Int)).toNat : Int) = _
  rw [BitVec.toNat_and, toNat_i64 (by omega), toNat_i64 (by omega), IntKind.wrap_i64]
  generalize a &&& b = t at *
  omega
/-- one bit set above a number -/
theorem or_bit {n p c : Nat} (hn : n < 2 ^ p) (hp : p ≤ 40) (hc : c ≤ 1) : bits .or .i64 (n : Int) (IntKind.i64.wrap ((c : Int) * 2 ^ p)) = ((n + 2 ^ p * c : Nat) : Int) := by
  have h40 : 2 ^ p ≤ 2 ^ 40 := Nat.pow_le_pow_right (by decide) hp
  have hm : 2 ^ p * c ≤ 2 ^ p * 1 := Nat.mul_le_mul_left _ hc
  have e1 : (c : Int) * 2 ^ p = ((2 ^ p * c : Nat) : Int) := by rw [Int.natCast_mul, Int.natCast_pow, Int.mul_comm]; rfl
  have e2 := Nat.two_pow_add_eq_or_of_lt hn c
  rw [e1, IntWalk.i64_in _ (by omega), or_i64 (by omega) (by omega), Nat.add_comm, e2, Nat.or_comm]
/-- a bit of an int, of its lowest sixteen -/
theorem bitZ (j : Int) {k : Nat} (hk : k < 16) : j / 2 ^ k % 2 = (((j % 65536).toNat / 2 ^ k % 2 : Nat) : Int) := by
  obtain rfl | rfl | rfl | rfl | rfl | rfl | rfl | rfl | rfl | rfl | rfl | rfl | rfl | rfl | rfl | rfl : k = 0 ∨ k = 1 ∨ k = 2 ∨ k = 3 ∨ k = 4 ∨ k = 5 ∨ k = 6 ∨ k = 7 ∨ k = 8 ∨ k = 9 ∨ k = 10 ∨ k = 11 ∨ k = 12 ∨ k = 13 ∨ k = 14 ∨ k = 15 := by omega
  all_goals omega
theorem spr_or {i j k : Nat} (hk : k < 16) : bits .or .i64 (bits .or .i64 ((spr i j k : Nat) : Int) (IntKind.i64.wrap (((j / 2 ^ k % 2 : Nat) : Int) * 2 ^ (2 * k)))) (IntKind.i64.wrap (((i / 2 ^ k % 2 : Nat) : Int) * 2 ^ (2 * k + 1))) = ((spr i j (k + 1) : Nat) : Int) := by
  have h4 : (4 : Nat) ^ k = 2 ^ (2 * k) := by rw [Nat.pow_mul]
  have hlt := spr_lt i j k
  rw [h4] at hlt
  have hj : j / 2 ^ k % 2 ≤ 1 := by omega
  have hi : i / 2 ^ k % 2 ≤ 1 := by omega
  have hm : 2 ^ (2 * k) * (j / 2 ^ k % 2) ≤ 2 ^ (2 * k) * 1 := Nat.mul_le_mul_left _ hj
  rw [or_bit hlt (by omega) hj, or_bit (by rw [Nat.pow_succ]; omega) (by omega) hi]
  congr 1
  show _ = spr i j k + 4 ^ k * (j / 2 ^ k % 2 + 2 * (i / 2 ^ k % 2))
  rw [h4, Nat.mul_add, Nat.pow_succ, Nat.add_assoc, ← Nat.mul_assoc]
end Go.Proofs.Ytaefalmabphadaa
