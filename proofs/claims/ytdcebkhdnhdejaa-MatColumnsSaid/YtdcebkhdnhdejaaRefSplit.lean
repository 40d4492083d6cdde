/- vernierref06.Class and Split; vernierref01.Word. -/
import Derived.Test.YtdcebkhdnhdejaaRefCut
import Derived.Test.YtdcebkhdnhdejaaRnd
namespace Go.Proofs.Ytdcebkhdnhdejaa
open Go.RowKit Go.Shelf

/-- the exponent's field, the fraction's -/
def fe (a : Nat) : Nat := a / 4503599627370496 % 2048
def ff (a : Nat) : Nat := a % 4503599627370496
def cls (a : Nat) : Nat := if fe a = 2047 then (if ff a = 0 then 2 else 3) else if fe a = 0 ∧ ff a = 0 then 0 else 1
def sig (a : Nat) : Nat := if fe a = 0 then ff a else ff a + 4503599627370496
def xpo (a : Nat) : Int := if fe a = 0 then -1074 else (fe a : Int) - 1075
def neg6 (a : Nat) : Bool := decide ((9223372036854775808 : Int) ≤ (a : Int))
theorem cls_le (a : Nat) : cls a ≤ 3 := by unfold cls; split <;> split <;> omega
theorem cls_fin {a : Nat} : cls a ≤ 1 ↔ fe a ≠ 2047 := by
  unfold cls
  split
  · rename_i h; split <;> omega
  · split <;> omega
theorem fe_lt (a : Nat) : fe a < 2048 := Nat.mod_lt _ (by decide)
theorem ff_lt (a : Nat) : ff a < 4503599627370496 := Nat.mod_lt _ (by decide)
/-- a number is its sign, exponent and fraction -/
theorem bits_eq {a : Nat} (ha : a < 18446744073709551616) : a = sgn (neg6 a) + fe a * 4503599627370496 + ff a := by
  unfold sgn neg6 fe ff
  by_cases h : (9223372036854775808 : Int) ≤ (a : Int)
  · rw [decide_eq_true h, if_pos rfl]; omega
  · rw [decide_eq_false h, if_neg (by decide)]; omega
theorem class6 {a : Nat} {W : World} (ha : (a : Int) ≤ 18446744073709551615) :
    Calls Try.prog 37 #[.int .u64 (a : Int)] W fun e W' => e = .returned (.int .i64 (cls a : Int)) ∧ W = W' := by
  have e1 : (a : Int) / 4503599627370496 % 2048 = (fe a : Int) := by unfold fe; omega
  have e2 : (a : Int) % 4503599627370496 = (ff a : Int) := by unfold ff; omega
  have hc : cls a = if fe a = 2047 then (if ff a = 0 then 2 else 3) else if fe a = 0 ∧ ff a = 0 then 0 else 1 := rfl
  rw [hc]
  generalize fe a = x at *
  generalize ff a = y at *
  clear hc
  by_cases h1 : x = 2047
  · subst h1
    rw [if_pos rfl]
    by_cases h2 : y = 0
    · subst h2
      go_enter Try.func37, Try.ntmps37
      go_wp2
      go_ret
      simp
    · rw [if_neg h2]
      go_enter Try.func37, Try.ntmps37
      go_wp2
      go_ret
      simp
  · rw [if_neg h1]
    by_cases h3 : x = 0
    · subst h3
      by_cases h2 : y = 0
      · subst h2
        rw [if_pos ⟨rfl, rfl⟩]
        go_enter Try.func37, Try.ntmps37
        go_wp2
        go_ret
        simp
      · rw [if_neg (by omega)]
        go_enter Try.func37, Try.ntmps37
        go_wp2
        go_ret
        simp
    · rw [if_neg (by omega)]
      go_enter Try.func37, Try.ntmps37
      go_wp2
      go_ret
      simp
end Go.Proofs.Ytdcebkhdnhdejaa
