/- vernierlaw11: alive, FfmaTells, FfmaParts. -/
import Derived.Test.YtgobclmihppopabFfSpec
namespace Go.Proofs.Ytgobclmihppopab
open Go.RowKit Go.Shelf
theorem rfma_ten : rfma 4611686018427387904 4613937818241073152 4616189618054758400 0 = (4621819117588971520, 0) := by
  have a1 : neg6 4611686018427387904 = false := by decide
  have a2 : sig 4611686018427387904 = 4503599627370496 := by decide
  have a3 : xpo 4611686018427387904 = -51 := by decide
  have b1 : neg6 4613937818241073152 = false := by decide
  have b2 : sig 4613937818241073152 = 6755399441055744 := by decide
  have b3 : xpo 4613937818241073152 = -51 := by decide
  have c1 : neg6 4616189618054758400 = false := by decide
  have c2 : sig 4616189618054758400 = 4503599627370496 := by decide
  have c3 : xpo 4616189618054758400 = -50 := by decide
  have f1 : neg6 4621819117588971520 = false := by decide
  have f2 : sig 4621819117588971520 = 5629499534213120 := by decide
  have f3 : xpo 4621819117588971520 = -49 := by decide
  have k1 : cls 4611686018427387904 = 1 := by decide
  have k2 : cls 4613937818241073152 = 1 := by decide
  have k3 : cls 4616189618054758400 = 1 := by decide
  unfold rfma
  rw [k1, k2, k3, a1, a2, a3, b1, b2, b3, c1, c2, c3, if_neg (by omega), if_neg (by omega), if_neg (by omega), if_neg (by omega), if_neg (by omega)]
  refine rsum_is (a := 4621819117588971520) (N := 5629499534213120 * 2 ^ 53) (x := 53) (by decide) (by decide) (by decide) ?_ (.inl ⟨by rw [f2], by rw [f3]; rfl⟩)
  unfold ssum
  rw [f1, show min (-51 + -51 : Int) (-50) = -102 from rfl, upper_at _ 0 (by omega), upper_at _ 52 (by omega)]
  decide
theorem ffalive (w : World) : Calls Try.prog 20 #[] w fun e W' => e = .returned (.bool true) ∧ Below w.heap.size w W' := by
  have h := ffma_fma (a := 4611686018427387904) (b := 4613937818241073152) (c := 4616189618054758400) (mode := 0) (w := w) (by omega) (by omega) (by omega)
  rw [rfma_ten] at h
  go_enter Try.func20, Try.ntmps20
  go_wp2_with fail
  refine Calls.mono h ?_
  rintro e w1 ⟨rfl, b1⟩
  go_wp2
  go_ret
  exact ⟨rfl, b1⟩
set_option maxRecDepth 100000 in
set_option maxHeartbeats 4000000 in
theorem ffmaTells_calls {a b c : Nat} {mode : Int} {w : World} (ha : (a : Int) ≤ 18446744073709551615) (hb : (b : Int) ≤ 18446744073709551615) (hc : (c : Int) ≤ 18446744073709551615) :
    Calls Try.prog 5 #[.int .u64 (a : Int), .int .u64 (b : Int), .int .u64 (c : Int), .int .i64 mode] w fun e W' => e = .returned (.bool true) ∧ Below w.heap.size w W' := by
  have h1 := fun w => ffma_fma (mode := mode) (w := w) ha hb hc
  have h2 := fun w => fma6 (mode := mode) (w := w) ha hb hc
  generalize rfma a b c mode = p at *
  obtain ⟨x, f⟩ := p
  go_enter Try.func5, Try.ntmps5
  go_wp2_with fail
  refine (h1 _).mono ?_
  rintro e w1 ⟨rfl, b1⟩
  go_wp2_with fail
  refine (h2 _).mono ?_
  rintro e w2 ⟨rfl, b2⟩
  replace b1 := below_both b1 b2
  clear b2
  go_wp2_with fail
  refine (ffalive _).mono ?_
  rintro e w3 ⟨rfl, b2⟩
  replace b1 := below_both b1 b2
  clear b2
  go_wp2
  all_goals (go_ret; exact ⟨rfl, b1⟩)
set_option maxRecDepth 100000 in
set_option maxHeartbeats 8000000 in
theorem ffmaParts_calls {a b : Nat} {mode : Int} {w : World} (ha : (a : Int) ≤ 18446744073709551615) (hb : (b : Int) ≤ 18446744073709551615) :
    Calls Try.prog 6 #[.int .u64 (a : Int), .int .u64 (b : Int), .int .i64 mode] w fun e W' => e = .returned (.bool true) ∧ Below w.heap.size w W' := by
  have h1 := fun w => ffma_fma (c := 0) (mode := mode) (w := w) ha hb (by omega)
  have h2 := fun w => mul6 (mode := mode) (w := w) ha hb
  have h3 := fun w => ffma_fma (b := 4607182418800017408) (c := b) (mode := mode) (w := w) ha (by omega) hb
  rw [rfma_one (by omega) (by omega)] at h3
  have h4 := fun w => add6 (mode := mode) (w := w) ha hb
  obtain ⟨k1, k2⟩ := rfma_zero (a := a) (b := b) (mode := mode)
  generalize rfma a b 0 mode = p at *
  generalize rmul a b mode = q at *
  generalize radd a b mode = r at *
  obtain ⟨x, f⟩ := p
  obtain ⟨y, g⟩ := q
  obtain ⟨z, i⟩ := r
  dsimp only at *
  subst k1
  rcases k2 with rfl | ⟨s, t, rfl, rfl⟩
  · skip
    go_enter Try.func6, Try.ntmps6
    go_wp2_with fail
    refine (ffalive _).mono ?_
    rintro e w1 ⟨rfl, b1⟩
    go_wp2_with fail
    refine (h1 _).mono ?_
    rintro e w2 ⟨rfl, b2⟩
    replace b1 := below_both b1 b2
    clear b2
    go_wp2_with fail
    refine (h2 _).mono ?_
    rintro e w3 ⟨rfl, b2⟩
    replace b1 := below_both b1 b2
    clear b2
    go_wp2_with fail
    refine (h3 _).mono ?_
    rintro e w4 ⟨rfl, b2⟩
    replace b1 := below_both b1 b2
    clear b2
    go_wp2_with fail
    refine (h4 _).mono ?_
    rintro e w5 ⟨rfl, b2⟩
    replace b1 := below_both b1 b2
    clear b2
    go_wp2
    all_goals (go_ret; exact ⟨rfl, b1⟩)
  · cases s
    · cases t
      · rw [show sgn false = 0 from rfl] at h1 h2
        go_enter Try.func6, Try.ntmps6
        go_wp2_with fail
        refine (ffalive _).mono ?_
        rintro e w1 ⟨rfl, b1⟩
        go_wp2_with fail
        refine (h1 _).mono ?_
        rintro e w2 ⟨rfl, b2⟩
        replace b1 := below_both b1 b2
        clear b2
        go_wp2_with fail
        refine (h2 _).mono ?_
        rintro e w3 ⟨rfl, b2⟩
        replace b1 := below_both b1 b2
        clear b2
        go_wp2_with fail
        refine (h3 _).mono ?_
        rintro e w4 ⟨rfl, b2⟩
        replace b1 := below_both b1 b2
        clear b2
        go_wp2_with fail
        refine (h4 _).mono ?_
        rintro e w5 ⟨rfl, b2⟩
        replace b1 := below_both b1 b2
        clear b2
        go_wp2
        all_goals (go_ret; exact ⟨rfl, b1⟩)
      · rw [show sgn false = 0 from rfl] at h1
        rw [show sgn true = 9223372036854775808 from rfl] at h2
        go_enter Try.func6, Try.ntmps6
        go_wp2_with fail
        refine (ffalive _).mono ?_
        rintro e w1 ⟨rfl, b1⟩
        go_wp2_with fail
        refine (h1 _).mono ?_
        rintro e w2 ⟨rfl, b2⟩
        replace b1 := below_both b1 b2
        clear b2
        go_wp2_with fail
        refine (h2 _).mono ?_
        rintro e w3 ⟨rfl, b2⟩
        replace b1 := below_both b1 b2
        clear b2
        go_wp2_with fail
        refine (h3 _).mono ?_
        rintro e w4 ⟨rfl, b2⟩
        replace b1 := below_both b1 b2
        clear b2
        go_wp2_with fail
        refine (h4 _).mono ?_
        rintro e w5 ⟨rfl, b2⟩
        replace b1 := below_both b1 b2
        clear b2
        go_wp2
        all_goals (go_ret; exact ⟨rfl, b1⟩)
    · cases t
      · rw [show sgn true = 9223372036854775808 from rfl] at h1
        rw [show sgn false = 0 from rfl] at h2
        go_enter Try.func6, Try.ntmps6
        go_wp2_with fail
        refine (ffalive _).mono ?_
        rintro e w1 ⟨rfl, b1⟩
        go_wp2_with fail
        refine (h1 _).mono ?_
        rintro e w2 ⟨rfl, b2⟩
        replace b1 := below_both b1 b2
        clear b2
        go_wp2_with fail
        refine (h2 _).mono ?_
        rintro e w3 ⟨rfl, b2⟩
        replace b1 := below_both b1 b2
        clear b2
        go_wp2_with fail
        refine (h3 _).mono ?_
        rintro e w4 ⟨rfl, b2⟩
        replace b1 := below_both b1 b2
        clear b2
        go_wp2_with fail
        refine (h4 _).mono ?_
        rintro e w5 ⟨rfl, b2⟩
        replace b1 := below_both b1 b2
        clear b2
        go_wp2
        all_goals (go_ret; exact ⟨rfl, b1⟩)
      · rw [show sgn true = 9223372036854775808 from rfl] at h1 h2
        go_enter Try.func6, Try.ntmps6
        go_wp2_with fail
        refine (ffalive _).mono ?_
        rintro e w1 ⟨rfl, b1⟩
        go_wp2_with fail
        refine (h1 _).mono ?_
        rintro e w2 ⟨rfl, b2⟩
        replace b1 := below_both b1 b2
        clear b2
        go_wp2_with fail
        refine (h2 _).mono ?_
        rintro e w3 ⟨rfl, b2⟩
        replace b1 := below_both b1 b2
        clear b2
        go_wp2_with fail
        refine (h3 _).mono ?_
        rintro e w4 ⟨rfl, b2⟩
        replace b1 := below_both b1 b2
        clear b2
        go_wp2_with fail
        refine (h4 _).mono ?_
        rintro e w5 ⟨rfl, b2⟩
        replace b1 := below_both b1 b2
        clear b2
        go_wp2
        all_goals (go_ret; exact ⟨rfl, b1⟩)
end Go.Proofs.Ytgobclmihppopab
