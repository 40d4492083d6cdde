/- vernierlaw08: alive, FmulTells, FmulOrder. -/
import Derived.Test.YtgobclmihppopaaFmSpec
namespace Go.Proofs.Ytgobclmihppopaa
open Go.RowKit Go.Shelf
theorem rmul_three : rmul 4613937818241073152 4613937818241073152 0 = (4621256167635550208, 0) := by
  have e1 : neg6 4613937818241073152 = false := by decide
  have e2 : sig 4613937818241073152 = 6755399441055744 := by decide
  have e3 : xpo 4613937818241073152 = -51 := by decide
  have f1 : neg6 4621256167635550208 = false := by decide
  have f2 : sig 4621256167635550208 = 5066549580791808 := by decide
  have f3 : xpo 4621256167635550208 = -49 := by decide
  have c1 : cls 4613937818241073152 = 1 := by decide
  have hr : rnd false (6755399441055744 * 6755399441055744) 1 (-51 + -51) 0 = (4621256167635550208, 0) := by
    have h := rnd_is (a := 4621256167635550208) (N := 6755399441055744 * 6755399441055744) (k := 53) (exp := -51 + -51) (mode := 0) (by decide) (by decide) (by decide) (.inl ⟨by rw [f2], by rw [f3]; rfl⟩)
    rw [f1] at h
    exact h
  unfold rmul
  rw [c1, e1, e2, e3, if_neg (by omega), if_neg (by omega), if_neg (by omega), if_neg (by omega)]
  exact hr
theorem malive (w : World) : Calls Try.prog 23 #[] w fun e W' => e = .returned (.bool true) ∧ Below w.heap.size w W' := by
  have h := fmul_mul (a := 4613937818241073152) (b := 4613937818241073152) (mode := 0) (w := w) (by omega) (by omega)
  rw [rmul_three] at h
  go_enter Try.func23, Try.ntmps23
  go_wp2_with fail
  refine Calls.mono h ?_
  rintro e w1 ⟨rfl, b1⟩
  go_wp2
  go_ret
  exact ⟨rfl, b1⟩
set_option maxRecDepth 100000 in
set_option maxHeartbeats 4000000 in
theorem fmulTells_calls {a b : Nat} {mode : Int} {w : World} (ha : (a : Int) ≤ 18446744073709551615) (hb : (b : Int) ≤ 18446744073709551615) :
    Calls Try.prog 7 #[.int .u64 (a : Int), .int .u64 (b : Int), .int .i64 mode] w fun e W' => e = .returned (.bool true) ∧ Below w.heap.size w W' := by
  have h1 := fun w => fmul_mul (mode := mode) (w := w) ha hb
  have h2 := fun w => mul6 (mode := mode) (w := w) ha hb
  generalize rmul a b mode = p at *
  obtain ⟨x, f⟩ := p
  go_enter Try.func7, Try.ntmps7
  go_wp2_with fail
  refine (h1 _).mono ?_
  rintro e w1 ⟨rfl, b1⟩
  go_wp2_with fail
  refine (h2 _).mono ?_
  rintro e w2 ⟨rfl, b2⟩
  replace b1 := below_both b1 b2
  clear b2
  go_wp2_with fail
  refine (malive _).mono ?_
  rintro e w3 ⟨rfl, b2⟩
  replace b1 := below_both b1 b2
  clear b2
  go_wp2
  all_goals (go_ret; exact ⟨rfl, b1⟩)
set_option maxRecDepth 100000 in
set_option maxHeartbeats 8000000 in
theorem fmulOrder_calls {a b : Nat} {mode : Int} {w : World} (ha : (a : Int) ≤ 18446744073709551615) (hb : (b : Int) ≤ 18446744073709551615) :
    Calls Try.prog 8 #[.int .u64 (a : Int), .int .u64 (b : Int), .int .i64 mode] w fun e W' => e = .returned (.bool true) ∧ Below w.heap.size w W' := by
  have h1 := fun w => fmul_mul (mode := mode) (w := w) ha hb
  have h2 := fun w => fmul_mul (mode := mode) (w := w) hb ha
  rw [rmul_comm b a] at h2
  have h5 := fun w => class6 (W := w) ha
  generalize rmul a b mode = p at *
  obtain ⟨x, f⟩ := p
  by_cases hc : cls a ≤ 1
  · have h3 := fun w => fmul_mul (b := 4607182418800017408) (mode := mode) (w := w) ha (by omega)
    rw [rmul_one (by omega) hc] at h3
    have h4 := fun w => fmul_mul (b := 0) (mode := mode) (w := w) ha (by omega)
    obtain ⟨s, hs⟩ := rmul_zero (mode := mode) hc
    rw [hs] at h4
    dsimp only at h3 h4
    have hci : (cls a : Int) ≤ 1 := by omega
    generalize cls a = y at *
    have hsg : sgn s = 0 ∨ sgn s = 9223372036854775808 := by cases s; exact .inl rfl; exact .inr rfl
    generalize sgn s = sz at *
    clear hc hs
    rcases hsg with rfl | rfl
    · skip
      go_enter Try.func8, Try.ntmps8
      go_wp2_with fail
      refine (malive _).mono ?_
      rintro e w1 ⟨rfl, b1⟩
      go_wp2_with fail
      refine (h1 _).mono ?_
      rintro e w2 ⟨rfl, b2⟩
      replace b1 := below_both b1 b2
      clear b2
      go_wp2_with fail
      refine (h2 _).mono ?_
      rintro e w3 ⟨rfl, b2⟩
      replace b1 := below_both b1 b2
      clear b2
      go_wp2_with fail
      refine (h5 _).mono ?_
      rintro e w4 ⟨rfl, rfl⟩
      go_wp2_with fail
      refine (h3 _).mono ?_
      rintro e w5 ⟨rfl, b2⟩
      replace b1 := below_both b1 b2
      clear b2
      go_wp2_with fail
      refine (h4 _).mono ?_
      rintro e w6 ⟨rfl, b2⟩
      replace b1 := below_both b1 b2
      clear b2
      go_wp2
      all_goals (go_ret; exact ⟨rfl, b1⟩)
    · skip
      go_enter Try.func8, Try.ntmps8
      go_wp2_with fail
      refine (malive _).mono ?_
      rintro e w1 ⟨rfl, b1⟩
      go_wp2_with fail
      refine (h1 _).mono ?_
      rintro e w2 ⟨rfl, b2⟩
      replace b1 := below_both b1 b2
      clear b2
      go_wp2_with fail
      refine (h2 _).mono ?_
      rintro e w3 ⟨rfl, b2⟩
      replace b1 := below_both b1 b2
      clear b2
      go_wp2_with fail
      refine (h5 _).mono ?_
      rintro e w4 ⟨rfl, rfl⟩
      go_wp2_with fail
      refine (h3 _).mono ?_
      rintro e w5 ⟨rfl, b2⟩
      replace b1 := below_both b1 b2
      clear b2
      go_wp2_with fail
      refine (h4 _).mono ?_
      rintro e w6 ⟨rfl, b2⟩
      replace b1 := below_both b1 b2
      clear b2
      go_wp2
      all_goals (go_ret; exact ⟨rfl, b1⟩)
  · have hci : (2 : Int) ≤ (cls a : Int) := by omega
    generalize cls a = y at *
    clear hc
    go_enter Try.func8, Try.ntmps8
    go_wp2_with fail
    refine (malive _).mono ?_
    rintro e w1 ⟨rfl, b1⟩
    go_wp2_with fail
    refine (h1 _).mono ?_
    rintro e w2 ⟨rfl, b2⟩
    replace b1 := below_both b1 b2
    clear b2
    go_wp2_with fail
    refine (h2 _).mono ?_
    rintro e w3 ⟨rfl, b2⟩
    replace b1 := below_both b1 b2
    clear b2
    go_wp2_with fail
    refine (h5 _).mono ?_
    rintro e w4 ⟨rfl, rfl⟩
    go_wp2
    all_goals (go_ret; exact ⟨rfl, b1⟩)
end Go.Proofs.Ytgobclmihppopaa
