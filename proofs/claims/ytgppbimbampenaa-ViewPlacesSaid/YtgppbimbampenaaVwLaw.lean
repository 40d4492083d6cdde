/- vernierlaw15: alive, may. -/
import Derived.Test.YtgppbimbampenaaVwPart
namespace Go.Proofs.Ytgppbimbampenaa
open Go.RowKit Go.Shelf
/-- block g holds just these cells -/
def Vw (W : World) (g : Nat) (cs : Array Value) (t : TypeId) : Prop := W.heap[g]? = some (.cells cs t (0, 0))
theorem Vw.lt {W : World} {g : Nat} {cs : Array Value} {t : TypeId} (h : Vw W g cs t) : g < W.heap.size := (Array.getElem?_eq_some_iff.1 h).1
theorem Vw.cell {W : World} {g : Nat} {cs : Array Value} {t : TypeId} (h : Vw W g cs t) {i : Nat} {v : Value} (hv : cs[i]? = some v) : W.cell? ⟨g, i, none⟩ = some v := by
  rw [cell_of_row W g i _ _ (0, 0) h, hv]
theorem Vw.behind {W W' : World} {g : Nat} {cs : Array Value} {t : TypeId} (h : Vw W g cs t) (hb : Below W.heap.size W W') : Vw W' g cs t := (hb.block g h.lt).trans h
theorem wbox (w : World) (c : Array Value) (t : TypeId) (W : World) (h : W = w.alloc (.cells c t)) : Below w.heap.size w W ∧ Vw W w.heap.size c t := by
  subst h
  exact ⟨(Below.refl _ w).alloc (Nat.le_refl _) _, World.alloc_heap_new w _⟩
set_option maxRecDepth 100000 in
set_option maxHeartbeats 4000000 in
theorem may15 {R C S O words : Int} {w : World} (hw1 : -9223372036854775808 ≤ words) (hw2 : words ≤ 9223372036854775807) :
    Calls Try.prog 17 #[.agg #[.int .i64 R, .int .i64 C, .int .i64 S, .int .i64 O], .int .i64 words] w fun e W' => e = .returned (.bool (mayW R C S O words)) ∧ Below w.heap.size w W' := by
  obtain ⟨bx, G⟩ := wbox w #[.int .i64 R, .int .i64 C, .int .i64 S, .int .i64 O] 23 _ rfl
  have c00 := G.cell (i := 0) rfl
  have c01 := G.cell (i := 1) rfl
  have c02 := G.cell (i := 2) rfl
  have c03 := G.cell (i := 3) rfl
  by_cases h : 0 ≤ R ∧ R ≤ 64 ∧ 0 ≤ C ∧ C ≤ 64 ∧ C ≤ S ∧ S ≤ 1048576 ∧ 0 ≤ O ∧ O ≤ 1048576
  · obtain ⟨k1, k2, k3, k4, k5, k6, k7, k8⟩ := h
    have q1 : decide (R < 0) = false := decide_eq_false (by omega)
    have q2 : decide (64 < R) = false := decide_eq_false (by omega)
    have q3 : decide (C < 0) = false := decide_eq_false (by omega)
    have q4 : decide (64 < C) = false := decide_eq_false (by omega)
    have q5 : decide (S < C) = false := decide_eq_false (by omega)
    have q6 : decide (1048576 < S) = false := decide_eq_false (by omega)
    have q7 : decide (O < 0) = false := decide_eq_false (by omega)
    have q8 : decide (1048576 < O) = false := decide_eq_false (by omega)
    by_cases hR : R = 0
    · have hm : mayW R C S O words = true := mayW_iff.2 ⟨k1, k2, k3, k4, k5, k6, k7, k8, .inl hR⟩
      rw [hm]
      subst hR
      go_enter Try.func17, Try.ntmps17
      go_wp2
      go_ret
      exact ⟨rfl, bx⟩
    · have d0 : (R == 0) = false := beq_eq_false_iff_ne.2 hR
      by_cases hC : C = 0
      · have hm : mayW R C S O words = true := mayW_iff.2 ⟨k1, k2, k3, k4, k5, k6, k7, k8, .inr (.inl hC)⟩
        rw [hm]
        subst hC
        go_enter Try.func17, Try.ntmps17
        go_wp2
        go_ret
        exact ⟨rfl, bx⟩
      · have d1 : (C == 0) = false := beq_eq_false_iff_ne.2 hC
        have hm : mayW R C S O words = decide (lastW R C S O < words) := by
          unfold mayW
          exact decide_eq_decide.2 ⟨fun h => (h.2.2.2.2.2.2.2.2.resolve_left hR).resolve_left hC, fun h => ⟨k1, k2, k3, k4, k5, k6, k7, k8, .inr (.inr h)⟩⟩
        rw [hm]
        unfold lastW
        obtain ⟨p1, p2⟩ := wmul_in (a := R - 1) (b := S) (x := 64) (y := 1048576) (by omega) (by omega) (by omega) k6
        have hw : IntKind.i64.wrap ((R - 1) * S) = (R - 1) * S := IntWalk.i64_in _ (by omega)
        obtain ⟨P, hP⟩ : ∃ P, (R - 1) * S = P := ⟨_, rfl⟩
        rw [hP] at p1 p2 hw ⊢
        have hw3 : IntKind.i64.wrap P = P := hw
        clear hR hC hm hw
        go_enter Try.func17, Try.ntmps17
        go_wp2
        go_ret
        exact ⟨rfl, bx⟩
  · have hm : mayW R C S O words = false := by
      unfold mayW
      rw [decide_eq_false_iff_not]
      exact fun hh => h ⟨hh.1, hh.2.1, hh.2.2.1, hh.2.2.2.1, hh.2.2.2.2.1, hh.2.2.2.2.2.1, hh.2.2.2.2.2.2.1, hh.2.2.2.2.2.2.2.1⟩
    rw [hm]
    have hway : (R < 0) ∨ (¬ R < 0 ∧ 64 < R) ∨ (¬ R < 0 ∧ ¬ 64 < R ∧ C < 0) ∨ (¬ R < 0 ∧ ¬ 64 < R ∧ ¬ C < 0 ∧ 64 < C) ∨ (¬ R < 0 ∧ ¬ 64 < R ∧ ¬ C < 0 ∧ ¬ 64 < C ∧ S < C) ∨ (¬ R < 0 ∧ ¬ 64 < R ∧ ¬ C < 0 ∧ ¬ 64 < C ∧ ¬ S < C ∧ 1048576 < S) ∨ (¬ R < 0 ∧ ¬ 64 < R ∧ ¬ C < 0 ∧ ¬ 64 < C ∧ ¬ S < C ∧ ¬ 1048576 < S ∧ O < 0) ∨ (¬ R < 0 ∧ ¬ 64 < R ∧ ¬ C < 0 ∧ ¬ 64 < C ∧ ¬ S < C ∧ ¬ 1048576 < S ∧ ¬ O < 0 ∧ 1048576 < O) := by omega
    clear h hm
    rcases hway with h | ⟨h1, h2⟩ | ⟨h1, h2, h3⟩ | ⟨h1, h2, h3, h4⟩ | ⟨h1, h2, h3, h4, h5⟩ | ⟨h1, h2, h3, h4, h5, h6⟩ | ⟨h1, h2, h3, h4, h5, h6, h7⟩ | ⟨h1, h2, h3, h4, h5, h6, h7, h8⟩
    all_goals
      go_enter Try.func17, Try.ntmps17
      go_wp2
      go_ret
      exact ⟨rfl, bx⟩
theorem vwalive (w : World) : Calls Try.prog 15 #[] w fun e W' => e = .returned (.bool true) ∧ Below w.heap.size w W' := by
  have h1 := view_whole (a := none) (m := 0) (cap := 0) (R := 2) (C := 2) (w := w)
  have h2 := fun w => view_part (R := 2) (C := 2) (S := 2) (O := 0) (i := 1) (j := 1) (rows := 1) (cols := 1) (w := w) (by decide) (by decide)
  have hbs := fun (W : World) => wbox W #[.int .i64 1, .int .i64 1, .int .i64 2, .int .i64 3] 23
  go_enter Try.func15, Try.ntmps15
  go_wp2_with fail
  refine Calls.mono h1 ?_
  rintro e w1 ⟨rfl, b1⟩
  go_wp2_with fail
  refine Calls.mono (h2 w1) ?_
  rintro e w2 ⟨rfl, b2⟩
  obtain ⟨bx, G⟩ := hbs w2 _ rfl
  have c03 := G.cell (i := 3) rfl
  go_wp2
  go_ret
  exact ⟨rfl, below_both (below_both b1 b2) bx⟩
end Go.Proofs.Ytgppbimbampenaa
