/- vernierlaw07: alive, FaddTells, FaddOrder. -/
import Derived.Test.YtgobclmihppopaaFaSpec
namespace Go.Proofs.Ytgobclmihppopaa
open Go.RowKit Go.Shelf
theorem radd_one : radd 4607182418800017408 4607182418800017408 0 = (4611686018427387904, 0) := by
  have hr : rsum (neg6 4607182418800017408) (sig 4607182418800017408) (xpo 4607182418800017408) (neg6 4607182418800017408) (sig 4607182418800017408) (xpo 4607182418800017408) 0 = (4611686018427387904, 0) := by
    have e1 : neg6 4607182418800017408 = false := by decide
    have e2 : sig 4607182418800017408 = 4503599627370496 := by decide
    have e3 : xpo 4607182418800017408 = -52 := by decide
    have f1 : neg6 4611686018427387904 = false := by decide
    have f2 : sig 4611686018427387904 = 4503599627370496 := by decide
    have f3 : xpo 4611686018427387904 = -51 := by decide
    rw [e1, e2, e3]
    refine rsum_is (a := 4611686018427387904) (N := 9007199254740992) (x := 1) (by decide) (by decide) (by decide) ?_ (.inl ⟨by rw [f2], by rw [f3]; rfl⟩)
    unfold ssum upper
    rw [f1, show min (-52 : Int) (-52) = -52 from rfl, show (-52 : Int) - -52 = 0 from rfl, pw_of_le (Int.le_refl 0)]
    rfl
  have c1 : cls 4607182418800017408 = 1 := by decide
  unfold radd
  rw [c1, if_neg (by omega), if_neg (by omega), if_neg (by omega), if_neg (by omega), hr]
theorem falive (w : World) : Calls Try.prog 19 #[] w fun e W' => e = .returned (.bool true) ∧ Below w.heap.size w W' := by
  have h := fadd_add (a := 4607182418800017408) (b := 4607182418800017408) (mode := 0) (w := w) (by omega) (by omega)
  rw [radd_one] at h
  go_enter Try.func19, Try.ntmps19
  go_wp2_with fail
  refine Calls.mono h ?_
  rintro e w1 ⟨rfl, b1⟩
  go_wp2
  go_ret
  exact ⟨rfl, b1⟩
theorem flip_bits {b : Nat} (hb : (b : Int) ≤ 18446744073709551615) : bits .xor .u64 (b : Int) 9223372036854775808 = (flip b : Int) :=
  bits_xor_u64_nat b 9223372036854775808 (by omega) (by decide)
set_option maxRecDepth 100000 in
set_option maxHeartbeats 4000000 in
theorem faddTells_calls {a b : Nat} {mode : Int} {w : World} (ha : (a : Int) ≤ 18446744073709551615) (hb : (b : Int) ≤ 18446744073709551615) :
    Calls Try.prog 3 #[.int .u64 (a : Int), .int .u64 (b : Int), .int .i64 mode] w fun e W' => e = .returned (.bool true) ∧ Below w.heap.size w W' := by
  have h1 := fun w => fadd_add (mode := mode) (w := w) ha hb
  have h2 := fun w => add6 (mode := mode) (w := w) ha hb
  have h3 := fun w => fadd_sub (mode := mode) (w := w) ha hb
  have hf : (flip b : Int) ≤ 18446744073709551615 := by have := (flip_facts (b := b) (by omega)).1; omega
  have h4 := fun w => add6 (mode := mode) (w := w) ha hf
  have h5 := fun w => class6 (W := w) hb
  have hx := Lib.hid (flip_bits hb)
  unfold rsubt at h3
  generalize radd a b mode = p at *
  generalize radd a (flip b) mode = q at *
  obtain ⟨x, f⟩ := p
  obtain ⟨z, g⟩ := q
  clear hf
  by_cases b3 : cls b = 3
  · rw [b3] at h5
    simp only [b3, if_true] at h3
    clear b3
    go_enter Try.func3, Try.ntmps3
    go_wp2_with fail
    refine (h1 _).mono ?_
    rintro e w1 ⟨rfl, b1⟩
    go_wp2_with fail
    refine (h2 _).mono ?_
    rintro e w2 ⟨rfl, b2⟩
    replace b1 := below_both b1 b2
    clear b2
    go_wp2_with fail
    refine (h3 _).mono ?_
    rintro e w3 ⟨rfl, b2⟩
    replace b1 := below_both b1 b2
    clear b2
    go_wp2_with fail
    rw [hx.out]
    refine (h4 _).mono ?_
    rintro e w4 ⟨rfl, b2⟩
    replace b1 := below_both b1 b2
    clear b2
    go_wp2_with fail
    refine (h5 _).mono ?_
    rintro e w5 ⟨rfl, rfl⟩
    go_wp2_with fail
    refine (falive _).mono ?_
    rintro e w6 ⟨rfl, b2⟩
    replace b1 := below_both b1 b2
    go_wp2
    go_ret
    exact ⟨rfl, b1⟩
  · simp only [b3, if_false] at h3
    have hb3 : ¬ (cls b : Int) = 3 := by omega
    have hbb : ((cls b : Int) == 3) = false := by simp; omega
    generalize cls b = y at *
    clear b3
    go_enter Try.func3, Try.ntmps3
    go_wp2_with fail
    refine (h1 _).mono ?_
    rintro e w1 ⟨rfl, b1⟩
    go_wp2_with fail
    refine (h2 _).mono ?_
    rintro e w2 ⟨rfl, b2⟩
    replace b1 := below_both b1 b2
    clear b2
    go_wp2_with fail
    refine (h3 _).mono ?_
    rintro e w3 ⟨rfl, b2⟩
    replace b1 := below_both b1 b2
    clear b2
    go_wp2_with fail
    rw [hx.out]
    refine (h4 _).mono ?_
    rintro e w4 ⟨rfl, b2⟩
    replace b1 := below_both b1 b2
    clear b2
    go_wp2_with fail
    refine (h5 _).mono ?_
    rintro e w5 ⟨rfl, rfl⟩
    go_wp2_with fail
    refine (falive _).mono ?_
    rintro e w6 ⟨rfl, b2⟩
    replace b1 := below_both b1 b2
    go_wp2
    go_ret
    exact ⟨rfl, b1⟩
end Go.Proofs.Ytgobclmihppopaa
