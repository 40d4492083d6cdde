/- arena: Lend. -/
import Derived.Test.YtgppbimbampenaaArSpec
import Derived.BigQuiet
namespace Go.Proofs.Ytgppbimbampenaa
open Go.RowKit Go.Shelf
def lentS (s o c : Nat) : Value := .slice (some ⟨s, if c = 0 then 0 else o, none⟩) c c
def lendB (u R C S O : Int) : Bool := decide ((0 ≤ R ∧ R ≤ 64) ∧ (0 ≤ C ∧ C ≤ 64) ∧ S = C ∧ 0 ≤ O ∧ O ≤ u - R * C)
section
variable {b g s n u h : Nat} {ws : List Nat} {W : World}
set_option maxHeartbeats 4000000 in
theorem ar_lend_yes (A : AN b W g s n u h ws) {r c o P : Nat} (hr : r ≤ 64) (hc : c ≤ 64) (hP : r * c = P) (ho : o + P ≤ u) :
    Calls Try.prog 35 #[.pointer (some ⟨g, 0, none⟩), .agg #[.int .i64 (r : Int), .int .i64 (c : Int), .int .i64 (c : Int), .int .i64 (o : Int)]] W fun e W' => e = .returned (lentS s o P) ∧ Below W.heap.size W W' := by
  obtain ⟨B, G⟩ := mbox W #[.int .i64 (r : Int), .int .i64 (c : Int), .int .i64 (c : Int), .int .i64 (o : Int)] 23 _ rfl
  have A1 := A.behind B
  have hm := ar_made A1.cell0
  have c1 := A1.cell1
  have c2 := A1.cell2
  have g0 := G.cell (i := 0) rfl
  have g1 := G.cell (i := 1) rfl
  have g2 := G.cell (i := 2) rfl
  have g3 := G.cell (i := 3) rfl
  have hs1 := fun w => ar_side (n := (r : Int)) (w := w)
  have hs2 := fun w => ar_side (n := (c : Int)) (w := w)
  rw [decide_eq_true (show (0 : Int) ≤ r ∧ (r : Int) ≤ 64 by omega)] at hs1
  rw [decide_eq_true (show (0 : Int) ≤ c ∧ (c : Int) ≤ 64 by omega)] at hs2
  have hP4 : P ≤ 4096 := by rw [← hP]; exact Nat.le_trans (Nat.mul_le_mul hr hc) (by decide)
  have e1 : IntKind.i64.wrap ((r : Int) * (c : Int)) = (P : Int) := by rw [← Int.natCast_mul, hP]; exact IntWalk.i64_in _ (by omega)
  have hu := A.un
  have ht := A.top
  clear hP A A1
  have q1 : decide ((o : Int) < 0) = false := decide_eq_false (by omega)
  have q2 : decide ((u : Int) - (P : Int) < (o : Int)) = false := decide_eq_false (by omega)
  by_cases h0 : P = 0
  · subst h0
    rw [show lentS s o 0 = .slice (some ⟨s, 0, none⟩) 0 0 from rfl]
    go_enter Try.func35, Try.ntmps35
    go_wp2_with fail
    generalize W.alloc (.cells #[.int .i64 (r : Int), .int .i64 (c : Int), .int .i64 (c : Int), .int .i64 (o : Int)] 23) = W0 at *
    refine hm.mono ?_
    rintro e w1 ⟨rfl, rfl⟩
    go_wp2_with fail
    refine (hs1 _).mono ?_
    rintro e w1 ⟨rfl, rfl⟩
    go_wp2_with fail
    refine (hs2 _).mono ?_
    rintro e w1 ⟨rfl, rfl⟩
    clear hm hs1 hs2
    go_wp2_with fail
    go_quiet (fail)
    go_wp2
    go_quiet (fail)
    go_wp2
    go_ret
    exact ⟨rfl, below_both (below_both B (below_drewN _ _ _)) (below_drewN _ _ _)⟩
  · rw [show lentS s o P = .slice (some ⟨s, o, none⟩) P P by unfold lentS; rw [if_neg h0]]
    go_enter Try.func35, Try.ntmps35
    go_wp2_with fail
    generalize W.alloc (.cells #[.int .i64 (r : Int), .int .i64 (c : Int), .int .i64 (c : Int), .int .i64 (o : Int)] 23) = W0 at *
    refine hm.mono ?_
    rintro e w1 ⟨rfl, rfl⟩
    go_wp2_with fail
    refine (hs1 _).mono ?_
    rintro e w1 ⟨rfl, rfl⟩
    go_wp2_with fail
    refine (hs2 _).mono ?_
    rintro e w1 ⟨rfl, rfl⟩
    clear hm hs1 hs2
    go_wp2_with fail
    go_quiet (fail)
    go_wp2
    go_quiet (fail)
    go_wp2
    go_ret
    refine ⟨?_, below_both (below_both B (below_drewN _ _ _)) (below_drewN _ _ _)⟩
    show Ending.returned (Value.slice (some ⟨s, o, none⟩) (o + P - o) (o + P - o)) = _
    rw [Nat.add_sub_cancel_left]
set_option maxHeartbeats 8000000 in
theorem ar_lend_no (A : AN b W g s n u h ws) {R C S O : Int} (hno : lendB u R C S O = false) :
    Calls Try.prog 35 #[.pointer (some ⟨g, 0, none⟩), .agg #[.int .i64 R, .int .i64 C, .int .i64 S, .int .i64 O]] W fun e W' => e = .returned (.slice none 0 0) ∧ Below W.heap.size W W' := by
  obtain ⟨B, G⟩ := mbox W #[.int .i64 R, .int .i64 C, .int .i64 S, .int .i64 O] 23 _ rfl
  have A1 := A.behind B
  have hm := ar_made A1.cell0
  have c1 := A1.cell1
  have c2 := A1.cell2
  have g0 := G.cell (i := 0) rfl
  have g1 := G.cell (i := 1) rfl
  have g2 := G.cell (i := 2) rfl
  have g3 := G.cell (i := 3) rfl
  have hs1 := fun w => ar_side (n := R) (w := w)
  have hs2 := fun w => ar_side (n := C) (w := w)
  have hu := A.un
  have ht := A.top
  have hno : ¬ ((0 ≤ R ∧ R ≤ 64) ∧ (0 ≤ C ∧ C ≤ 64) ∧ S = C ∧ 0 ≤ O ∧ O ≤ u - R * C) := of_decide_eq_false hno
  clear A A1
  by_cases k1 : 0 ≤ R ∧ R ≤ 64
  · rw [decide_eq_true k1] at hs1
    by_cases k2 : 0 ≤ C ∧ C ≤ 64
    · rw [decide_eq_true k2] at hs2
      obtain ⟨r, rfl⟩ : ∃ r : Nat, R = r := ⟨R.toNat, by omega⟩
      obtain ⟨c, rfl⟩ : ∃ c : Nat, C = c := ⟨C.toNat, by omega⟩
      obtain ⟨P, hP⟩ : ∃ P, r * c = P := ⟨_, rfl⟩
      have hP4 : P ≤ 4096 := by rw [← hP]; exact Nat.le_trans (Nat.mul_le_mul (show r ≤ 64 by omega) (show c ≤ 64 by omega)) (by decide)
      have e1 : IntKind.i64.wrap ((r : Int) * (c : Int)) = (P : Int) := by rw [← Int.natCast_mul, hP]; exact IntWalk.i64_in _ (by omega)
      rw [← Int.natCast_mul, hP] at hno
      by_cases k3 : S = (c : Int)
      · subst k3
        clear hP
        by_cases k4 : 0 ≤ O
        · have k5 : ¬ O ≤ (u : Int) - P := fun h => hno ⟨k1, k2, rfl, k4, h⟩
          have q1 : decide (O < 0) = false := decide_eq_false (by omega)
          have q2 : decide ((u : Int) - (P : Int) < O) = true := decide_eq_true (by omega)
          clear hno k1 k2
          go_enter Try.func35, Try.ntmps35
          go_wp2_with fail
          generalize W.alloc (.cells #[.int .i64 (r : Int), .int .i64 (c : Int), .int .i64 (c : Int), .int .i64 O] 23) = W0 at *
          refine hm.mono ?_
          rintro e w1 ⟨rfl, rfl⟩
          go_wp2_with fail
          refine (hs1 _).mono ?_
          rintro e w1 ⟨rfl, rfl⟩
          go_wp2_with fail
          refine (hs2 _).mono ?_
          rintro e w1 ⟨rfl, rfl⟩
          clear hm hs1 hs2
          go_wp2_with fail
          go_quiet (fail)
          go_wp2
          go_ret
          exact ⟨rfl, below_both B (below_drewN _ _ _)⟩
        · have q1 : decide (O < 0) = true := decide_eq_true (by omega)
          clear hno k1 k2
          go_enter Try.func35, Try.ntmps35
          go_wp2_with fail
          generalize W.alloc (.cells #[.int .i64 (r : Int), .int .i64 (c : Int), .int .i64 (c : Int), .int .i64 O] 23) = W0 at *
          refine hm.mono ?_
          rintro e w1 ⟨rfl, rfl⟩
          go_wp2_with fail
          refine (hs1 _).mono ?_
          rintro e w1 ⟨rfl, rfl⟩
          go_wp2_with fail
          refine (hs2 _).mono ?_
          rintro e w1 ⟨rfl, rfl⟩
          clear hm hs1 hs2
          go_wp2_with fail
          go_quiet (fail)
          go_wp2
          go_ret
          exact ⟨rfl, below_both B (below_drewN _ _ _)⟩
      · clear hno hP k1 k2
        go_enter Try.func35, Try.ntmps35
        go_wp2_with fail
        generalize W.alloc (.cells #[.int .i64 (r : Int), .int .i64 (c : Int), .int .i64 S, .int .i64 O] 23) = W0 at *
        refine hm.mono ?_
        rintro e w1 ⟨rfl, rfl⟩
        go_wp2_with fail
        refine (hs1 _).mono ?_
        rintro e w1 ⟨rfl, rfl⟩
        go_wp2_with fail
        refine (hs2 _).mono ?_
        rintro e w1 ⟨rfl, rfl⟩
        clear hm hs1 hs2
        go_wp2
        go_ret
        exact ⟨rfl, B⟩
    · rw [decide_eq_false k2] at hs2
      clear hno k1 k2
      go_enter Try.func35, Try.ntmps35
      go_wp2_with fail
      generalize W.alloc (.cells #[.int .i64 R, .int .i64 C, .int .i64 S, .int .i64 O] 23) = W0 at *
      refine hm.mono ?_
      rintro e w1 ⟨rfl, rfl⟩
      go_wp2_with fail
      refine (hs1 _).mono ?_
      rintro e w1 ⟨rfl, rfl⟩
      go_wp2_with fail
      refine (hs2 _).mono ?_
      rintro e w1 ⟨rfl, rfl⟩
      go_wp2
      go_ret
      exact ⟨rfl, B⟩
  · rw [decide_eq_false k1] at hs1
    clear hno k1
    go_enter Try.func35, Try.ntmps35
    go_wp2_with fail
    generalize W.alloc (.cells #[.int .i64 R, .int .i64 C, .int .i64 S, .int .i64 O] 23) = W0 at *
    refine hm.mono ?_
    rintro e w1 ⟨rfl, rfl⟩
    go_wp2_with fail
    refine (hs1 _).mono ?_
    rintro e w1 ⟨rfl, rfl⟩
    go_wp2
    go_ret
    exact ⟨rfl, B⟩
end
end Go.Proofs.Ytgppbimbampenaa
