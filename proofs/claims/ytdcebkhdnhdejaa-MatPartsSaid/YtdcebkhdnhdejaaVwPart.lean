/- view: Part, Get. -/
import Derived.Test.YtdcebkhdnhdejaaVwSpec
import Derived.Deep.RegionWith
namespace Go.Proofs.Ytdcebkhdnhdejaa
open Go.RowKit Go.Shelf
theorem _root_.Go.RowKit.Below.put4 {B g : Nat} {w W : World} (h : Below B w W) (hg : B ≤ g) (x y z u : Value) : Below B w ((((W.setCell ⟨g, 0, none⟩ x).setCell ⟨g, 1, none⟩ y).setCell ⟨g, 2, none⟩ z).setCell ⟨g, 3, none⟩ u) :=
  (((h.setCell (p := ⟨g, 0, none⟩) hg x).setCell (p := ⟨g, 1, none⟩) hg y).setCell (p := ⟨g, 2, none⟩) hg z).setCell (p := ⟨g, 3, none⟩) hg u
def VV (R C S O : Int) : Array Value := #[.int .i64 R, .int .i64 C, .int .i64 S, .int .i64 O]
theorem vbox2 (w : World) (c d : Array Value) (t u : TypeId) (W : World) (h : W = (w.alloc (.cells c t)).alloc (.cells d u)) : Below w.heap.size w W ∧ Ms W w.heap.size c t ∧ Ms W (w.heap.size + 1) d u ∧ w.heap.size + 1 < W.heap.size := by
  subst h
  have b1 := (Below.refl _ w).alloc (Nat.le_refl _) (.cells c t)
  have b2 := (Below.refl _ (w.alloc (.cells c t))).alloc (Nat.le_refl _) (.cells d u)
  have G1 : Ms (w.alloc (.cells c t)) w.heap.size c t := World.alloc_heap_new w _
  have G2 := World.alloc_heap_new (w.alloc (.cells c t)) (.cells d u)
  rw [World.size_alloc] at G2
  refine ⟨below_both b1 b2, G1.behind b2, G2, ?_⟩
  rw [World.size_alloc, World.size_alloc]; omega
theorem outP_no {R C i j rows cols : Int} (h : outP R C i j rows cols = false) : partB i rows R = true ∧ partB j cols C = true := by
  unfold outP at h
  rw [decide_eq_false_iff_not] at h
  exact ⟨decide_eq_true (by omega), decide_eq_true (by omega)⟩
theorem outP_yes {R C i j rows cols : Int} (h : outP R C i j rows cols = true) : partB i rows R = false ∨ partB j cols C = false := by
  unfold outP at h
  rw [decide_eq_true_eq] at h
  by_cases k : 0 ≤ i ∧ i ≤ R ∧ 0 ≤ rows ∧ rows ≤ R - i
  · exact .inr (decide_eq_false (by omega))
  · exact .inl (decide_eq_false k)
set_option maxHeartbeats 4000000 in
theorem view_part {R C S O i j rows cols : Int} {w : World} (hv : mayW R C S O 1048576 = true) (ho : outP R C i j rows cols = false) :
    Calls Try.prog 79 #[.agg #[.int .i64 R, .int .i64 C, .int .i64 S, .int .i64 O], .int .i64 i, .int .i64 j, .int .i64 rows, .int .i64 cols] w fun e W' => e = .returned (.tuple #[.agg #[.int .i64 rows, .int .i64 cols, .int .i64 S, .int .i64 (O + i * S + j)], .int .i64 0]) ∧ Below w.heap.size w W' := by
  obtain ⟨B, G1, G2, hw0⟩ := vbox2 w #[.int .i64 R, .int .i64 C, .int .i64 S, .int .i64 O] #[.int .i64 0, .int .i64 0, .int .i64 0, .int .i64 0] 95 95 _ rfl
  have hk := fun w => view_check (R := R) (C := C) (S := S) (O := O) (words := 1048576) (w := w)
  rw [show chkW R C S O 1048576 = 0 by unfold chkW; rw [hv]; rfl] at hk
  have hb := mayW_iff.1 hv
  obtain ⟨p1, p2⟩ := outP_no ho
  have q1 : 0 ≤ i ∧ i ≤ R ∧ 0 ≤ rows ∧ rows ≤ R - i := of_decide_eq_true p1
  have q2 : 0 ≤ j ∧ j ≤ C ∧ 0 ≤ cols ∧ cols ≤ C - j := of_decide_eq_true p2
  have hnum := fun w => view_number (R := R) (C := C) (S := S) (O := O) (i := i) (j := j) (w := w) (by omega) (by omega) (by omega) (by omega) (by omega) (by omega) (by omega) (by omega)
  have h1 := fun w => view_isPart (f := i) (c := rows) (a := R) (w := w) (by omega)
  have h2 := fun w => view_isPart (f := j) (c := cols) (a := C) (w := w) (by omega)
  rw [p1] at h1
  rw [p2] at h2
  generalize O + i * S + j = L at *
  have c0 := G1.cell (i := 0) rfl
  have c1 := G1.cell (i := 1) rfl
  have c2 := G1.cell (i := 2) rfl
  have c3 := G1.cell (i := 3) rfl
  clear hv ho p1 p2 q1 q2 hb
  go_enter Try.func79, Try.ntmps79
  go_wp2_with fail
  generalize (w.alloc (.cells #[.int .i64 R, .int .i64 C, .int .i64 S, .int .i64 O] 95)).alloc (.cells #[.int .i64 0, .int .i64 0, .int .i64 0, .int .i64 0] 95) = W0 at *
  refine (hk _).mono ?_
  rintro e w1 ⟨rfl, b3⟩
  clear hk
  replace B := below_both B b3
  replace G1 := G1.behind b3
  replace G2 := G2.behind b3
  have hw1 := Nat.lt_of_lt_of_le hw0 b3.size
  have c0 := G1.cell (i := 0) rfl
  have c1 := G1.cell (i := 1) rfl
  have c2 := G1.cell (i := 2) rfl
  have c3 := G1.cell (i := 3) rfl
  go_wp2_with fail
  refine (h1 _).mono ?_
  rintro e w2 ⟨rfl, rfl⟩
  go_wp2_with fail
  refine (h2 _).mono ?_
  rintro e w2 ⟨rfl, rfl⟩
  clear h1 h2
  go_wp2
  have g0 := G2.cell (i := 0) rfl
  have f0 := G2.f 0
  have f1 := G2.f 1
  have f2 := G2.f 2
  have f3 := G2.f 3
  go_region_with (first
    | (go_at_call 121; refine (hnum _).mono ?_; rintro e w3 ⟨rfl, b4⟩; replace B := (by first | exact below_both B b4 | exact below_both B.drew b4); replace G1 := (by first | exact G1.behind b4 | exact G1.drew.behind b4); replace G2 := (by first | exact G2.behind b4 | exact G2.drew.behind b4); have c0 := G1.cell (i := 0) rfl; have c1 := G1.cell (i := 1) rfl; have c2 := G1.cell (i := 2) rfl; have c3 := G1.cell (i := 3) rfl; have g0 := G2.cell (i := 0) rfl; have g1 := G2.cell (i := 1) rfl; have g2 := G2.cell (i := 2) rfl; have g3 := G2.cell (i := 3) rfl; have f0 := G2.f 0; have f1 := G2.f 1; have f2 := G2.f 2; have f3 := G2.f 3))
  all_goals
    go_wp2
    exact bodyPost_ret (v := .tuple #[.agg #[.int .i64 rows, .int .i64 cols, .int .i64 S, .int .i64 L], .int .i64 0]) (by simp [results, Try.results79, go_sem, g0, g1, g2, g3]) rfl
      ⟨rfl, B.put4 (by omega) _ _ _ _⟩
set_option maxHeartbeats 4000000 in
theorem view_part_no {R C S O i j rows cols : Int} {w : World} (hv : mayW R C S O 1048576 = false) :
    Calls Try.prog 79 #[.agg #[.int .i64 R, .int .i64 C, .int .i64 S, .int .i64 O], .int .i64 i, .int .i64 j, .int .i64 rows, .int .i64 cols] w fun e W' => e = .returned (.tuple #[.agg #[.int .i64 0, .int .i64 0, .int .i64 0, .int .i64 0], .int .i64 11]) ∧ Below w.heap.size w W' := by
  obtain ⟨B, G1, G2, hw0⟩ := vbox2 w #[.int .i64 R, .int .i64 C, .int .i64 S, .int .i64 O] #[.int .i64 0, .int .i64 0, .int .i64 0, .int .i64 0] 95 95 _ rfl
  have hk := fun w => view_check (R := R) (C := C) (S := S) (O := O) (words := 1048576) (w := w)
  rw [show chkW R C S O 1048576 = 11 by unfold chkW; rw [hv]; rfl] at hk
  clear hv
  have c0 := G1.cell (i := 0) rfl
  have c1 := G1.cell (i := 1) rfl
  have c2 := G1.cell (i := 2) rfl
  have c3 := G1.cell (i := 3) rfl
  go_enter Try.func79, Try.ntmps79
  go_wp2_with fail
  generalize (w.alloc (.cells #[.int .i64 R, .int .i64 C, .int .i64 S, .int .i64 O] 95)).alloc (.cells #[.int .i64 0, .int .i64 0, .int .i64 0, .int .i64 0] 95) = W0 at *
  refine (hk _).mono ?_
  rintro e w1 ⟨rfl, b3⟩
  clear hk
  replace B := below_both B b3
  replace G1 := G1.behind b3
  replace G2 := G2.behind b3
  have hw1 := Nat.lt_of_lt_of_le hw0 b3.size
  have c0 := G1.cell (i := 0) rfl
  have c1 := G1.cell (i := 1) rfl
  have c2 := G1.cell (i := 2) rfl
  have c3 := G1.cell (i := 3) rfl
  have g0 := G2.cell (i := 0) rfl
  have g1 := G2.cell (i := 1) rfl
  have g2 := G2.cell (i := 2) rfl
  have g3 := G2.cell (i := 3) rfl
  have f0 := G2.f 0
  have f1 := G2.f 1
  have f2 := G2.f 2
  have f3 := G2.f 3
  go_wp2
  exact bodyPost_ret (v := .tuple #[.agg #[.int .i64 0, .int .i64 0, .int .i64 0, .int .i64 0], .int .i64 11]) (by simp [results, Try.results79, go_sem, g0, g1, g2, g3]) rfl
    ⟨rfl, B.put4 (by omega) _ _ _ _⟩
set_option maxHeartbeats 4000000 in
theorem view_part_out {R C S O i j rows cols : Int} {w : World} (hv : mayW R C S O 1048576 = true) (ho : outP R C i j rows cols = true) :
    Calls Try.prog 79 #[.agg #[.int .i64 R, .int .i64 C, .int .i64 S, .int .i64 O], .int .i64 i, .int .i64 j, .int .i64 rows, .int .i64 cols] w fun e W' => e = .returned (.tuple #[.agg #[.int .i64 0, .int .i64 0, .int .i64 0, .int .i64 0], .int .i64 4]) ∧ Below w.heap.size w W' := by
  obtain ⟨B, G1, G2, hw0⟩ := vbox2 w #[.int .i64 R, .int .i64 C, .int .i64 S, .int .i64 O] #[.int .i64 0, .int .i64 0, .int .i64 0, .int .i64 0] 95 95 _ rfl
  have hk := fun w => view_check (R := R) (C := C) (S := S) (O := O) (words := 1048576) (w := w)
  rw [show chkW R C S O 1048576 = 0 by unfold chkW; rw [hv]; rfl] at hk
  have hb := mayW_iff.1 hv
  have h1 := fun w => view_isPart (f := i) (c := rows) (a := R) (w := w) (by omega)
  have h2 := fun w => view_isPart (f := j) (c := cols) (a := C) (w := w) (by omega)
  have HY := Lib.hid (outP_yes ho)
  clear hv ho hb
  have c0 := G1.cell (i := 0) rfl
  have c1 := G1.cell (i := 1) rfl
  have c2 := G1.cell (i := 2) rfl
  have c3 := G1.cell (i := 3) rfl
  go_enter Try.func79, Try.ntmps79
  go_wp2_with fail
  generalize (w.alloc (.cells #[.int .i64 R, .int .i64 C, .int .i64 S, .int .i64 O] 95)).alloc (.cells #[.int .i64 0, .int .i64 0, .int .i64 0, .int .i64 0] 95) = W0 at *
  refine (hk _).mono ?_
  rintro e w1 ⟨rfl, b3⟩
  clear hk
  replace B := below_both B b3
  replace G1 := G1.behind b3
  replace G2 := G2.behind b3
  have hw1 := Nat.lt_of_lt_of_le hw0 b3.size
  have c0 := G1.cell (i := 0) rfl
  have c1 := G1.cell (i := 1) rfl
  have c2 := G1.cell (i := 2) rfl
  have c3 := G1.cell (i := 3) rfl
  have g0 := G2.cell (i := 0) rfl
  have g1 := G2.cell (i := 1) rfl
  have g2 := G2.cell (i := 2) rfl
  have g3 := G2.cell (i := 3) rfl
  have f0 := G2.f 0
  have f1 := G2.f 1
  have f2 := G2.f 2
  have f3 := G2.f 3
  cases k : partB i rows R
  · rw [k] at h1
    clear k
    go_wp2_with fail
    refine (h1 _).mono ?_
    rintro e w2 ⟨rfl, rfl⟩
    clear h1 h2
    go_wp2
    exact bodyPost_ret (v := .tuple #[.agg #[.int .i64 0, .int .i64 0, .int .i64 0, .int .i64 0], .int .i64 4]) (by simp [results, Try.results79, go_sem, g0, g1, g2, g3]) rfl
      ⟨rfl, B.put4 (by omega) _ _ _ _⟩
  · have k2 : partB j cols C = false := HY.out.resolve_left (by rw [k]; decide)
    rw [k] at h1
    rw [k2] at h2
    clear k k2
    go_wp2_with fail
    refine (h1 _).mono ?_
    rintro e w2 ⟨rfl, rfl⟩
    go_wp2_with fail
    refine (h2 _).mono ?_
    rintro e w2 ⟨rfl, rfl⟩
    clear h1 h2
    go_wp2
    exact bodyPost_ret (v := .tuple #[.agg #[.int .i64 0, .int .i64 0, .int .i64 0, .int .i64 0], .int .i64 4]) (by simp [results, Try.results79, go_sem, g0, g1, g2, g3]) rfl
      ⟨rfl, B.put4 (by omega) _ _ _ _⟩
theorem partB_one (i R : Int) : partB i 1 R = decide (0 ≤ i ∧ i < R) := by
  unfold partB
  by_cases h : 0 ≤ i ∧ i < R
  · rw [decide_eq_true h, decide_eq_true (by omega)]
  · rw [decide_eq_false h, decide_eq_false (by omega)]
end Go.Proofs.Ytdcebkhdnhdejaa
