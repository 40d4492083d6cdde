/- vernierlaw14: alive, may, same. -/
import Derived.Test.YtaefalmabphadaaShEq
namespace Go.Proofs.Ytaefalmabphadaa
open Go.RowKit Go.Shelf
theorem halive (w : World) : Calls Try.prog 22 #[] w fun e W' => e = .returned (.bool true) ∧ Below w.heap.size w W' := by
  have hbs := fun (W : World) (a : Option Addr) (c : Nat) => mbox W #[.int .i64 1, .int .i64 1, .slice a 1 c] 24
  go_enter Try.func22, Try.ntmps22
  go_wp2_with fail
  refine (shape_one w).mono ?_
  rintro e w1 ⟨b, c, rfl, hN, b1⟩
  obtain ⟨S, hR, hS, _⟩ := hN
  obtain ⟨a, cap, he, _, hs⟩ := hR.slice
  simp only [List.length_cons, List.length_nil, Nat.zero_add, Value.slice.injEq, true_and] at he hs
  obtain ⟨rfl, rfl⟩ := he
  obtain ⟨off, rfl⟩ := hs Nat.one_pos
  obtain ⟨bx, G⟩ := hbs w1 (some ⟨S, off, none⟩) c _ rfl
  have k0 : (w1.alloc (.cells #[.int .i64 1, .int .i64 1, .slice (some ⟨S, off, none⟩) 1 c] 24)).cell? ⟨S, off, none⟩ = some (.int .u64 4607182418800017408) := (hR.kept (bx.block S hS)).cell (j := 0) Nat.one_pos
  have c02 := G.cell (i := 2) rfl
  go_wp2
  go_ret
  exact ⟨rfl, below_both b1 bx⟩
theorem may14 {a : Option Addr} {m cap : Nat} {R C : Int} {w : World} (h1 : -9223372036854775808 ≤ R) (h2 : R < 9223372036854775808) (h3 : -9223372036854775808 ≤ C) (h4 : C < 9223372036854775808) :
    Calls Try.prog 15 #[.agg #[.int .i64 R, .int .i64 C, .slice a m cap]] w fun e W' => e = .returned (.bool (mayM R C m)) ∧ Below w.heap.size w W' := by
  obtain ⟨bx, G⟩ := mbox w #[.int .i64 R, .int .i64 C, .slice a m cap] 24 _ rfl
  have c00 := G.cell (i := 0) rfl
  have c01 := G.cell (i := 1) rfl
  have c02 := G.cell (i := 2) rfl
  by_cases k1 : 1 ≤ R
  · by_cases k2 : R ≤ 64
    · by_cases k3 : 1 ≤ C
      · by_cases k4 : C ≤ 64
        · have hw : mayM R C m = decide ((m : Int) = R * C) := by
            unfold mayM
            rw [decide_eq_true k1, decide_eq_true k2, decide_eq_true k3, decide_eq_true k4]; rfl
          have hp : IntKind.i64.wrap (R * C) = R * C := by
            have := Int.mul_le_mul k2 k4 (by omega) (by decide)
            have := Int.mul_nonneg (show 0 ≤ R by omega) (show 0 ≤ C by omega)
            exact IntWalk.i64_in _ (by omega)
          have hq : ((m : Int) == R * C) = decide ((m : Int) = R * C) := rfl
          rw [hw]
          go_enter Try.func15, Try.ntmps15
          go_wp2
          go_ret
          refine ⟨?_, bx⟩
          first | rfl | simp [hp]
        · have hw : mayM R C m = false := by unfold mayM; rw [decide_eq_false k4]; simp
          rw [hw]
          go_enter Try.func15, Try.ntmps15
          go_wp2
          go_ret
          exact ⟨rfl, bx⟩
      · have hw : mayM R C m = false := by unfold mayM; rw [decide_eq_false k3]; simp
        rw [hw]
        go_enter Try.func15, Try.ntmps15
        go_wp2
        go_ret
        exact ⟨rfl, bx⟩
    · have hw : mayM R C m = false := by unfold mayM; rw [decide_eq_false k2]; simp
      rw [hw]
      go_enter Try.func15, Try.ntmps15
      go_wp2
      go_ret
      exact ⟨rfl, bx⟩
  · have hw : mayM R C m = false := by unfold mayM; rw [decide_eq_false k1]; simp
    rw [hw]
    go_enter Try.func15, Try.ntmps15
    go_wp2
    go_ret
    exact ⟨rfl, bx⟩
end Go.Proofs.Ytaefalmabphadaa
