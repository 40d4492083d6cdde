/- parts: what its calls keep. -/
import Derived.Test.YtgppbimbampenaaRefRound
import Derived.Test.YtgppbimbampenaaPaNum
namespace Go.Proofs.Ytgppbimbampenaa
open Go.RowKit Go.Shelf

theorem res4 {fn : Func} {t u v x : Tmp} (h : fn.results = #[.tmp t, .tmp u, .tmp v, .tmp x]) (tmps : Array Value) (P : Program) (w : World) :
    (results fn tmps).run P w = .ok (.tuple #[tmps.getD t undef, tmps.getD u undef, tmps.getD v undef, tmps.getD x undef]) w := by
  simp [results, h]
theorem pzero1 (neg : Bool) (w : World) : Calls Try.prog 82 #[.bool neg] w fun e W' => e = .returned (.int .u64 (sgn neg : Int)) ∧ w = W' := by
  go_enter Try.func82, Try.ntmps82
  cases neg
  · go_wp2
    go_ret
    simp [sgn]
  · go_wp2
    go_ret
    simp [sgn]
theorem pclass1 {a : Nat} {w : World} (ha : (a : Int) ≤ 18446744073709551615) : Calls Try.prog 83 #[.int .u64 (a : Int)] w fun e W' => e = .returned (.int .i64 (cls a : Int)) ∧ w = W' := by
  have hn := not_top (a := a) (by omega)
  have hc : (a % 9223372036854775808 = 0 ∧ cls a = 0) ∨ (a % 9223372036854775808 ≠ 0 ∧ a % 9223372036854775808 ≤ 9218868437227405311 ∧ cls a = 1) ∨ (a % 9223372036854775808 = 9218868437227405312 ∧ cls a = 2) ∨ (9218868437227405313 ≤ a % 9223372036854775808 ∧ cls a = 3) := by
    unfold cls fe ff
    by_cases h1 : a / 4503599627370496 % 2048 = 2047
    · rw [if_pos h1]
      by_cases h2 : a % 4503599627370496 = 0
      · rw [if_pos h2]; omega
      · rw [if_neg h2]; omega
    · rw [if_neg h1]
      by_cases h2 : a / 4503599627370496 % 2048 = 0 ∧ a % 4503599627370496 = 0
      · rw [if_pos h2]; omega
      · rw [if_neg h2]; omega
  generalize cls a = c at *
  generalize a % 9223372036854775808 = z at *
  go_enter Try.func83, Try.ntmps83
  rcases hc with ⟨rfl, rfl⟩ | ⟨h1, h2, rfl⟩ | ⟨rfl, rfl⟩ | ⟨h1, rfl⟩
  · go_wp2
    go_ret
    exact ⟨rfl, rfl⟩
  · have d1 : ((z : Int) == 0) = false := beq_eq_false_iff_ne.2 (by omega)
    have d2 : decide ((z : Int) < 9218868437227405312) = true := decide_eq_true (by omega)
    clear h1 h2
    go_wp2
    go_ret
    exact ⟨rfl, rfl⟩
  · go_wp2
    go_ret
    exact ⟨rfl, rfl⟩
  · have d1 : ((z : Int) == 0) = false := beq_eq_false_iff_ne.2 (by omega)
    have d2 : decide ((z : Int) < 9218868437227405312) = false := decide_eq_false (by omega)
    have d3 : ((z : Int) == 9218868437227405312) = false := beq_eq_false_iff_ne.2 (by omega)
    clear h1
    go_wp2
    go_ret
    exact ⟨rfl, rfl⟩
end Go.Proofs.Ytgppbimbampenaa
