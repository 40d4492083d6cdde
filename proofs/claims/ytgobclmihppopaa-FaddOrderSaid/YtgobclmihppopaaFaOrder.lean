/- vernierlaw07.FaddOrder, walked. -/
import Derived.Test.YtgobclmihppopaaFaLaw
namespace Go.Proofs.Ytgobclmihppopaa
open Go.RowKit Go.Shelf
theorem two_zero {a : Nat} (ha : a ≤ 18446744073709551615) (h : a * 2 % 18446744073709551616 = 0) : a = 0 ∨ a = 9223372036854775808 := by omega
theorem sgn_cases (s : Bool) : sgn s = 0 ∨ sgn s = 9223372036854775808 := by cases s; exact .inl rfl; exact .inr rfl
set_option maxRecDepth 100000 in
set_option maxHeartbeats 8000000 in
theorem faddOrder_calls {a b : Nat} {mode : Int} {w : World} (ha : (a : Int) ≤ 18446744073709551615) (hb : (b : Int) ≤ 18446744073709551615) :
    Calls Try.prog 4 #[.int .u64 (a : Int), .int .u64 (b : Int), .int .i64 mode] w fun e W' => e = .returned (.bool true) ∧ Below w.heap.size w W' := by
  have h1 := fun w => fadd_add (mode := mode) (w := w) ha hb
  have h2 := fun w => fadd_add (mode := mode) (w := w) hb ha
  rw [radd_comm b a] at h2
  have h5 := fun w => class6 (W := w) ha
  generalize radd a b mode = p at *
  obtain ⟨x, f⟩ := p
  by_cases hc : cls a ≤ 1
  · obtain ⟨s, hs⟩ := rsub_self (a := a) (mode := mode) (by omega) hc
    have h3 := fun w => fadd_sub (mode := mode) (w := w) ha ha
    rw [hs] at h3
    have h4 := fun w => fadd_add (b := 0) (mode := mode) (w := w) ha (by omega)
    obtain ⟨z1, z2⟩ := radd_zero (mode := mode) (a := a) (by omega) hc
    have hlt : (radd a 0 mode).1 ≤ 18446744073709551615 := radd_lt (by omega) (by omega)
    generalize radd a 0 mode = q at *
    obtain ⟨v, g⟩ := q
    dsimp only at z1 z2 hlt h3 h4
    subst z1
    have hci : (cls a : Int) ≤ 1 := by omega
    generalize cls a = y at *
    have hsg := sgn_cases s
    generalize sgn s = sz at *
    clear hc hs
    rcases z2 with k0 | ⟨k1, k2⟩
    · subst k0
      clear hlt
      rcases hsg with rfl | rfl
      · skip
        go_enter Try.func4, Try.ntmps4
        go_wp2_with fail
        refine (falive _).mono ?_
        rintro e w1 ⟨rfl, b1⟩
        go_wp2_with fail
        refine (h1 _).mono ?_
        rintro e w2 ⟨rfl, b2⟩
        replace b1 := below_both b1 b2
        clear b2
        go_wp2_with fail
        refine (h2 _).mono ?_
        rintro e w3 ⟨rfl, b2⟩
        replace b1 := below_both b1 b2
        clear b2
        go_wp2_with fail
        refine (h5 _).mono ?_
        rintro e w4 ⟨rfl, rfl⟩
        go_wp2_with fail
        refine (h3 _).mono ?_
        rintro e w5 ⟨rfl, b2⟩
        replace b1 := below_both b1 b2
        clear b2
        go_wp2_with fail
        refine (h4 _).mono ?_
        rintro e w6 ⟨rfl, b2⟩
        replace b1 := below_both b1 b2
        clear b2
        go_wp2
        all_goals (go_ret; exact ⟨rfl, b1⟩)
      · skip
        go_enter Try.func4, Try.ntmps4
        go_wp2_with fail
        refine (falive _).mono ?_
        rintro e w1 ⟨rfl, b1⟩
        go_wp2_with fail
        refine (h1 _).mono ?_
        rintro e w2 ⟨rfl, b2⟩
        replace b1 := below_both b1 b2
        clear b2
        go_wp2_with fail
        refine (h2 _).mono ?_
        rintro e w3 ⟨rfl, b2⟩
        replace b1 := below_both b1 b2
        clear b2
        go_wp2_with fail
        refine (h5 _).mono ?_
        rintro e w4 ⟨rfl, rfl⟩
        go_wp2_with fail
        refine (h3 _).mono ?_
        rintro e w5 ⟨rfl, b2⟩
        replace b1 := below_both b1 b2
        clear b2
        go_wp2_with fail
        refine (h4 _).mono ?_
        rintro e w6 ⟨rfl, b2⟩
        replace b1 := below_both b1 b2
        clear b2
        go_wp2
        all_goals (go_ret; exact ⟨rfl, b1⟩)
    · rcases two_zero (by omega) k1 with rfl | rfl
      · rcases two_zero hlt k2 with rfl | rfl
        · clear k1 k2 hlt
          rcases hsg with rfl | rfl
          · skip
            go_enter Try.func4, Try.ntmps4
            go_wp2_with fail
            refine (falive _).mono ?_
            rintro e w1 ⟨rfl, b1⟩
            go_wp2_with fail
            refine (h1 _).mono ?_
            rintro e w2 ⟨rfl, b2⟩
            replace b1 := below_both b1 b2
            clear b2
            go_wp2_with fail
            refine (h2 _).mono ?_
            rintro e w3 ⟨rfl, b2⟩
            replace b1 := below_both b1 b2
            clear b2
            go_wp2_with fail
            refine (h5 _).mono ?_
            rintro e w4 ⟨rfl, rfl⟩
            go_wp2_with fail
            refine (h3 _).mono ?_
            rintro e w5 ⟨rfl, b2⟩
            replace b1 := below_both b1 b2
            clear b2
            go_wp2_with fail
            refine (h4 _).mono ?_
            rintro e w6 ⟨rfl, b2⟩
            replace b1 := below_both b1 b2
            clear b2
            go_wp2
            all_goals (go_ret; exact ⟨rfl, b1⟩)
          · skip
            go_enter Try.func4, Try.ntmps4
            go_wp2_with fail
            refine (falive _).mono ?_
            rintro e w1 ⟨rfl, b1⟩
            go_wp2_with fail
            refine (h1 _).mono ?_
            rintro e w2 ⟨rfl, b2⟩
            replace b1 := below_both b1 b2
            clear b2
            go_wp2_with fail
            refine (h2 _).mono ?_
            rintro e w3 ⟨rfl, b2⟩
            replace b1 := below_both b1 b2
            clear b2
            go_wp2_with fail
            refine (h5 _).mono ?_
            rintro e w4 ⟨rfl, rfl⟩
            go_wp2_with fail
            refine (h3 _).mono ?_
            rintro e w5 ⟨rfl, b2⟩
            replace b1 := below_both b1 b2
            clear b2
            go_wp2_with fail
            refine (h4 _).mono ?_
            rintro e w6 ⟨rfl, b2⟩
            replace b1 := below_both b1 b2
            clear b2
            go_wp2
            all_goals (go_ret; exact ⟨rfl, b1⟩)
        · clear k1 k2 hlt
          rcases hsg with rfl | rfl
          · skip
            go_enter Try.func4, Try.ntmps4
            go_wp2_with fail
            refine (falive _).mono ?_
            rintro e w1 ⟨rfl, b1⟩
            go_wp2_with fail
            refine (h1 _).mono ?_
            rintro e w2 ⟨rfl, b2⟩
            replace b1 := below_both b1 b2
            clear b2
            go_wp2_with fail
            refine (h2 _).mono ?_
            rintro e w3 ⟨rfl, b2⟩
            replace b1 := below_both b1 b2
            clear b2
            go_wp2_with fail
            refine (h5 _).mono ?_
            rintro e w4 ⟨rfl, rfl⟩
            go_wp2_with fail
            refine (h3 _).mono ?_
            rintro e w5 ⟨rfl, b2⟩
            replace b1 := below_both b1 b2
            clear b2
            go_wp2_with fail
            refine (h4 _).mono ?_
            rintro e w6 ⟨rfl, b2⟩
            replace b1 := below_both b1 b2
            clear b2
            go_wp2
            all_goals (go_ret; exact ⟨rfl, b1⟩)
          · skip
            go_enter Try.func4, Try.ntmps4
            go_wp2_with fail
            refine (falive _).mono ?_
            rintro e w1 ⟨rfl, b1⟩
            go_wp2_with fail
            refine (h1 _).mono ?_
            rintro e w2 ⟨rfl, b2⟩
            replace b1 := below_both b1 b2
            clear b2
            go_wp2_with fail
            refine (h2 _).mono ?_
            rintro e w3 ⟨rfl, b2⟩
            replace b1 := below_both b1 b2
            clear b2
            go_wp2_with fail
            refine (h5 _).mono ?_
            rintro e w4 ⟨rfl, rfl⟩
            go_wp2_with fail
            refine (h3 _).mono ?_
            rintro e w5 ⟨rfl, b2⟩
            replace b1 := below_both b1 b2
            clear b2
            go_wp2_with fail
            refine (h4 _).mono ?_
            rintro e w6 ⟨rfl, b2⟩
            replace b1 := below_both b1 b2
            clear b2
            go_wp2
            all_goals (go_ret; exact ⟨rfl, b1⟩)
      · rcases two_zero hlt k2 with rfl | rfl
        · clear k1 k2 hlt
          rcases hsg with rfl | rfl
          · skip
            go_enter Try.func4, Try.ntmps4
            go_wp2_with fail
            refine (falive _).mono ?_
            rintro e w1 ⟨rfl, b1⟩
            go_wp2_with fail
            refine (h1 _).mono ?_
            rintro e w2 ⟨rfl, b2⟩
            replace b1 := below_both b1 b2
            clear b2
            go_wp2_with fail
            refine (h2 _).mono ?_
            rintro e w3 ⟨rfl, b2⟩
            replace b1 := below_both b1 b2
            clear b2
            go_wp2_with fail
            refine (h5 _).mono ?_
            rintro e w4 ⟨rfl, rfl⟩
            go_wp2_with fail
            refine (h3 _).mono ?_
            rintro e w5 ⟨rfl, b2⟩
            replace b1 := below_both b1 b2
            clear b2
            go_wp2_with fail
            refine (h4 _).mono ?_
            rintro e w6 ⟨rfl, b2⟩
            replace b1 := below_both b1 b2
            clear b2
            go_wp2
            all_goals (go_ret; exact ⟨rfl, b1⟩)
          · skip
            go_enter Try.func4, Try.ntmps4
            go_wp2_with fail
            refine (falive _).mono ?_
            rintro e w1 ⟨rfl, b1⟩
            go_wp2_with fail
            refine (h1 _).mono ?_
            rintro e w2 ⟨rfl, b2⟩
            replace b1 := below_both b1 b2
            clear b2
            go_wp2_with fail
            refine (h2 _).mono ?_
            rintro e w3 ⟨rfl, b2⟩
            replace b1 := below_both b1 b2
            clear b2
            go_wp2_with fail
            refine (h5 _).mono ?_
            rintro e w4 ⟨rfl, rfl⟩
            go_wp2_with fail
            refine (h3 _).mono ?_
            rintro e w5 ⟨rfl, b2⟩
            replace b1 := below_both b1 b2
            clear b2
            go_wp2_with fail
            refine (h4 _).mono ?_
            rintro e w6 ⟨rfl, b2⟩
            replace b1 := below_both b1 b2
            clear b2
            go_wp2
            all_goals (go_ret; exact ⟨rfl, b1⟩)
        · clear k1 k2 hlt
          rcases hsg with rfl | rfl
          · skip
            go_enter Try.func4, Try.ntmps4
            go_wp2_with fail
            refine (falive _).mono ?_
            rintro e w1 ⟨rfl, b1⟩
            go_wp2_with fail
            refine (h1 _).mono ?_
            rintro e w2 ⟨rfl, b2⟩
            replace b1 := below_both b1 b2
            clear b2
            go_wp2_with fail
            refine (h2 _).mono ?_
            rintro e w3 ⟨rfl, b2⟩
            replace b1 := below_both b1 b2
            clear b2
            go_wp2_with fail
            refine (h5 _).mono ?_
            rintro e w4 ⟨rfl, rfl⟩
            go_wp2_with fail
            refine (h3 _).mono ?_
            rintro e w5 ⟨rfl, b2⟩
            replace b1 := below_both b1 b2
            clear b2
            go_wp2_with fail
            refine (h4 _).mono ?_
            rintro e w6 ⟨rfl, b2⟩
            replace b1 := below_both b1 b2
            clear b2
            go_wp2
            all_goals (go_ret; exact ⟨rfl, b1⟩)
          · skip
            go_enter Try.func4, Try.ntmps4
            go_wp2_with fail
            refine (falive _).mono ?_
            rintro e w1 ⟨rfl, b1⟩
            go_wp2_with fail
            refine (h1 _).mono ?_
            rintro e w2 ⟨rfl, b2⟩
            replace b1 := below_both b1 b2
            clear b2
            go_wp2_with fail
            refine (h2 _).mono ?_
            rintro e w3 ⟨rfl, b2⟩
            replace b1 := below_both b1 b2
            clear b2
            go_wp2_with fail
            refine (h5 _).mono ?_
            rintro e w4 ⟨rfl, rfl⟩
            go_wp2_with fail
            refine (h3 _).mono ?_
            rintro e w5 ⟨rfl, b2⟩
            replace b1 := below_both b1 b2
            clear b2
            go_wp2_with fail
            refine (h4 _).mono ?_
            rintro e w6 ⟨rfl, b2⟩
            replace b1 := below_both b1 b2
            clear b2
            go_wp2
            all_goals (go_ret; exact ⟨rfl, b1⟩)
  · have hci : (2 : Int) ≤ (cls a : Int) := by omega
    generalize cls a = y at *
    clear hc
    go_enter Try.func4, Try.ntmps4
    go_wp2_with fail
    refine (falive _).mono ?_
    rintro e w1 ⟨rfl, b1⟩
    go_wp2_with fail
    refine (h1 _).mono ?_
    rintro e w2 ⟨rfl, b2⟩
    replace b1 := below_both b1 b2
    clear b2
    go_wp2_with fail
    refine (h2 _).mono ?_
    rintro e w3 ⟨rfl, b2⟩
    replace b1 := below_both b1 b2
    clear b2
    go_wp2_with fail
    refine (h5 _).mono ?_
    rintro e w4 ⟨rfl, rfl⟩
    go_wp2
    go_ret
    exact ⟨rfl, b1⟩
end Go.Proofs.Ytgobclmihppopaa
