/- Quotients in words: plain numbers. No program is named here. -/
import Derived.Test.YtdonecohnemomaaStk
namespace Go.Proofs.Ytdonecohnemomaa

theorem rnd_cancel {neg : Bool} {num d : Nat} {exp mode : Int} (hn : 0 < num) (hd : 0 < d) : rnd neg (num * d) d exp mode = rnd neg num 1 exp mode := by
  refine rnd_cross hn (by decide) (Nat.mul_pos hn hd) hd fun e => ?_
  unfold upper lower
  rw [Nat.one_mul]
  simp only [Nat.mul_left_comm, Nat.mul_assoc]
/-- a quotient of 63 bits or more, and what is left -/
theorem fd_quot {neg : Bool} {mA mB sA sB q r : Nat} {xA xB e mode : Int} (hA : 0 < mA) (hB : 0 < mB) (h : mA * 2 ^ sA * 18446744073709551616 = q * (mB * 2 ^ sB) + r) (hr : r < mB * 2 ^ sB)
    (hq : 4611686018427387904 ≤ q) (he : e = (xA - sA - 64) - (xB - sB)) (e1 : -16384 ≤ e) (e2 : e ≤ 16384) :
    rnd neg mA mB (xA - xB) mode = prnd neg 0 q e (decide (r ≠ 0)) mode := by
  have hd : 0 < mB * 2 ^ sB := Nat.mul_pos hB (Nat.two_pow_pos _)
  have s1 : rnd neg (mA * 2 ^ sA * 18446744073709551616) (mB * 2 ^ sB) e mode = rnd neg mA mB (xA - xB) mode := by
    have hn : 0 < mA * 2 ^ sA := Nat.mul_pos hA (Nat.two_pow_pos _)
    rw [show (18446744073709551616 : Nat) = 2 ^ 64 from rfl, rnd_scale hn hd, rnd_scale hA hd, rnd_under hA hB]
    congr 1
    omega
  rw [← s1, h]
  by_cases h0 : r = 0
  · subst h0
    rw [decide_eq_false (by omega), prnd_plain (by omega) e1 e2, Nat.add_zero, rnd_cancel (by omega) hd, Nat.zero_mul, Nat.zero_add]
  · have hk : e + 1 ≤ rx q e := by
      have h1 := rx_ge q e
      have h2 := nbits_ge (N := q) (k := 62) (by omega)
      omega
    rw [decide_eq_true h0, prnd_more (by omega) e1 e2, rnd_frac (by omega) (by omega) hr hk, Nat.zero_mul, Nat.zero_add]
end Go.Proofs.Ytdonecohnemomaa
