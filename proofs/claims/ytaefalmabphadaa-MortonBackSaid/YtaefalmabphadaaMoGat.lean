/- morton.Apart: bits gathered. -/
import Derived.Test.YtaefalmabphadaaMoLaw
namespace Go.Proofs.Ytaefalmabphadaa
open Go.RowKit Go.Shelf
def gat (f : Nat → Nat) : Nat → Nat
  | 0 => 0
  | n + 1 => gat f n + 2 ^ n * f n
theorem gat_lt {f : Nat → Nat} (hf : ∀ b, f b ≤ 1) (n : Nat) : gat f n < 2 ^ n := by
  induction n with
  | zero => exact Nat.one_pos
  | succ n ih =>
    have h2 := Nat.mul_le_mul_left (2 ^ n) (hf n)
    show gat f n + 2 ^ n * f n < 2 ^ (n + 1)
    rw [Nat.pow_succ]
    omega
theorem gat_bit {f : Nat → Nat} (hf : ∀ b, f b ≤ 1) {n b : Nat} (h : b < n) : gat f n / 2 ^ b % 2 = f b := by
  induction n with
  | zero => omega
  | succ n ih =>
    have hp : 0 < 2 ^ b := Nat.two_pow_pos b
    show (gat f n + 2 ^ n * f n) / 2 ^ b % 2 = f b
    by_cases e : b = n
    · subst e
      rw [Nat.add_mul_div_left _ _ hp, Nat.div_eq_of_lt (gat_lt hf b), Nat.zero_add]
      have := hf b
      omega
    · obtain ⟨d, rfl⟩ : ∃ d, n = b + 1 + d := ⟨n - (b + 1), by omega⟩
      have e2 : 2 ^ (b + 1 + d) * f (b + 1 + d) = 2 ^ b * (2 * (2 ^ d * f (b + 1 + d))) := by
        rw [Nat.pow_add, Nat.pow_succ]; simp only [Nat.mul_assoc]
      rw [e2, Nat.add_mul_div_left _ _ hp, Nat.add_mul_mod_self_left]
      exact ih (by omega)
/-- apart, and together again -/
theorem spr_gat (Z : Nat) : spr (gat (fun b => Z / 2 ^ (2 * b + 1) % 2) 16) (gat (fun b => Z / 2 ^ (2 * b) % 2) 16) 16 = Z % 4294967296 := by
  have hf : ∀ b, (fun b => Z / 2 ^ (2 * b + 1) % 2) b ≤ 1 := fun b => by dsimp only; omega
  have hg : ∀ b, (fun b => Z / 2 ^ (2 * b) % 2) b ≤ 1 := fun b => by dsimp only; omega
  have key : ∀ n, n ≤ 16 → spr (gat (fun b => Z / 2 ^ (2 * b + 1) % 2) 16) (gat (fun b => Z / 2 ^ (2 * b) % 2) 16) n = Z % 4 ^ n := by
    intro n
    induction n with
    | zero => intro _; show 0 = _; rw [Nat.pow_zero, Nat.mod_one]
    | succ n ih =>
      intro hn
      show spr _ _ n + 4 ^ n * pr2 _ _ n = _
      rw [ih (by omega), Nat.mod_pow_succ]
      congr 2
      unfold pr2
      rw [gat_bit hf (by omega), gat_bit hg (by omega)]
      have e4 : (4 : Nat) ^ n = 2 ^ (2 * n) := by rw [Nat.pow_mul]
      rw [e4, Nat.pow_succ, ← Nat.div_div_eq_div_mul]
      generalize Z / 2 ^ (2 * n) = q
      omega
  exact key 16 (by omega)
theorem bitZ32 (z : Int) {p : Nat} (hp : p < 32) : z / 2 ^ p % 2 = (((z % 4294967296).toNat / 2 ^ p % 2 : Nat) : Int) := by
  obtain rfl | rfl | rfl | rfl | rfl | rfl | rfl | rfl | rfl | rfl | rfl | rfl | rfl | rfl | rfl | rfl | rfl | rfl | rfl | rfl | rfl | rfl | rfl | rfl | rfl | rfl | rfl | rfl | rfl | rfl | rfl | rfl : p = 0 ∨ p = 1 ∨ p = 2 ∨ p = 3 ∨ p = 4 ∨ p = 5 ∨ p = 6 ∨ p = 7 ∨ p = 8 ∨ p = 9 ∨ p = 10 ∨ p = 11 ∨ p = 12 ∨ p = 13 ∨ p = 14 ∨ p = 15 ∨ p = 16 ∨ p = 17 ∨ p = 18 ∨ p = 19 ∨ p = 20 ∨ p = 21 ∨ p = 22 ∨ p = 23 ∨ p = 24 ∨ p = 25 ∨ p = 26 ∨ p = 27 ∨ p = 28 ∨ p = 29 ∨ p = 30 ∨ p = 31 := by omega
  all_goals omega
def oddZ (Z n : Nat) : Nat := gat (fun b => Z / 2 ^ (2 * b + 1) % 2) n
def evnZ (Z n : Nat) : Nat := gat (fun b => Z / 2 ^ (2 * b) % 2) n
set_option maxRecDepth 100000 in
set_option maxHeartbeats 4000000 in
theorem mo_apart {z : Int} {w : World} : Calls Try.prog 38 #[.int .i64 z] w fun e W' => e = .returned (.tuple #[.int .i64 ((oddZ (z % 4294967296).toNat 16 : Nat) : Int), .int .i64 ((evnZ (z % 4294967296).toNat 16 : Nat) : Int)]) ∧ w = W' := by
  have hb := fun (p : Nat) (hp : p < 32) => bitZ32 z hp
  generalize (z % 4294967296).toNat = Z at *
  have HB := Lib.hid hb
  clear hb
  go_enter Try.func38, Try.ntmps38
  go_wp2
  go_loop [4, 5, 7] (fun i j b => ∃ k n m : Nat, k ≤ 16 ∧ b = .int .i64 k ∧ i = .int .i64 n ∧ j = .int .i64 m ∧ Hid (n = oddZ Z k) ∧ Hid (m = evnZ Z k)) (fun _ _ b => 16 - (intOf b).toNat)
  case atStart => exact ⟨0, 0, 0, by omega, rfl, rfl, rfl, Lib.hid rfl, Lib.hid rfl⟩
  case round =>
    obtain ⟨k, n, m, hk, rfl, rfl, rfl, HN, HM⟩ := hrel
    by_cases hlt : k < 16
    · have h1 : (k : Int) < 16 := by omega
      have hs : IntKind.i64.wrap (2 * (k : Int)) = ((2 * k : Nat) : Int) := by rw [Int.natCast_mul]; exact IntWalk.i64_in _ (by omega)
      have hs1 : IntKind.i64.wrap (((2 * k : Nat) : Int) + 1) = ((2 * k + 1 : Nat) : Int) := by rw [IntWalk.i64_in _ (by omega)]; omega
      have HS1 : Hid (bits .or .i64 (m : Int) (wrap64 (bits .and .i64 (z / 2 ^ (2 * k)) 1 * 2 ^ k)) = ((evnZ Z (k + 1) : Nat) : Int)) := Lib.hid (by
        rw [← IntWalk.i64_left, and1, HB.out (2 * k) (by omega)]
        have := HM.out
        rw [or_bit (p := k) (by rw [this]; exact gat_lt (fun b => Nat.le_of_lt_succ (Nat.mod_lt _ (by decide))) k) (by omega) (by omega), this]
        rfl)
      have HS2 : Hid (bits .or .i64 (n : Int) (wrap64 (bits .and .i64 (z / 2 ^ (2 * k + 1)) 1 * 2 ^ k)) = ((oddZ Z (k + 1) : Nat) : Int)) := Lib.hid (by
        rw [← IntWalk.i64_left, and1, HB.out (2 * k + 1) (by omega)]
        have := HN.out
        rw [or_bit (p := k) (by rw [this]; exact gat_lt (fun b => Nat.le_of_lt_succ (Nat.mod_lt _ (by decide))) k) (by omega) (by omega), this]
        rfl)
      go_wp2
      exact ⟨⟨k + 1, oddZ Z (k + 1), evnZ Z (k + 1), by omega, by simp, by rw [← HS2.out], by rw [← HS1.out], Lib.hid rfl, Lib.hid rfl⟩, by simp [intOf]; omega⟩
    · have hge : decide ((k : Int) < 16) = false := decide_eq_false (by omega)
      go_wp2
      go_ret2
      exact ⟨by rw [HN.out, HM.out, show k = 16 by omega]; rfl, rfl⟩
theorem low32 (z : Int) : bits .and .i64 z 4294967295 = z % 4294967296 := by
  have h1 : ((BitVec.ofInt 64 z).toNat : Int) = z % 18446744073709551616 := by
    rw [BitVec.toNat_ofInt]
    have h := Int.emod_nonneg z (show (2 : Int) ^ 64 ≠ 0 by decide)
    exact Int.toNat_of_nonneg h
  have h2 : (BitVec.ofInt 64 (4294967295 : Int)).toNat = 2 ^ 32 - 1 := by decide
  show IntKind.i64.wrap ((BitVec.ofInt 64 z &&& BitVec.ofInt 64 4294967295).toNat : Int) = _
  rw [BitVec.toNat_and, h2, Nat.and_two_pow_sub_one_eq_mod, IntKind.wrap_i64]
  generalize (BitVec.ofInt 64 z).toNat = t at *
  omega
end Go.Proofs.Ytaefalmabphadaa
