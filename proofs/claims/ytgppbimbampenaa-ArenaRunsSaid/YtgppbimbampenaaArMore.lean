/- arena: Take's errors, Release, New of any small number. -/
import Derived.Test.YtgppbimbampenaaArTake
namespace Go.Proofs.Ytgppbimbampenaa
open Go.RowKit Go.Shelf
theorem ar_newM {z : Int} {n : Nat} (hz : max z 0 = (n : Int)) (hn : n ≤ 1048576) {w : World} : Calls Try.prog 33 #[.int .i64 z] w fun e W' => ∃ g s, e = .returned (.pointer (some ⟨g, 0, none⟩)) ∧ AN w.heap.size W' g s n 0 0 (List.replicate n 0) ∧ Below w.heap.size w W' := by
  have hmx : ∀ (w : World) (ts : Array TypeId) (t : TypeId), (Builtin.max_ ts t #[.int .i64 z, .int .i64 0]).run Try.prog w = .ok (.int .i64 (n : Int)) w := fun w ts t => by
    rw [max_twoM, hz]
  have hmn : ∀ (w : World) (ts : Array TypeId) (t : TypeId), (Builtin.min_ ts t #[.int .i64 (n : Int), .int .i64 1048576]).run Try.prog w = .ok (.int .i64 (n : Int)) w := fun w ts t => by
    have e : (if (1048576 : Int) < (n : Int) then (1048576 : Int) else n) = n := by rw [if_neg]; omega
    simp [Builtin.min_, Builtin.min2, e]
  have hmk := fun u => makeN_u64 n (by omega) u
  have B1 : Below w.heap.size w (w.alloc (.cells (madeCells #[.int .u64 0] n) 57)) := (Below.refl _ w).alloc (Nat.le_refl _) _
  have hrow : Wr (w.alloc (.cells (madeCells #[.int .u64 0] n) 57)) w.heap.size (List.replicate n 0) := by
    unfold Wr World.alloc
    have h := valsK_zeros .u64 n
    have e : zn (List.replicate n 0) = List.replicate n 0 := by unfold zn; rw [List.map_replicate]; rfl
    rw [e, ← h]
    simp
  obtain ⟨B2, G⟩ := mbox (w.alloc (.cells (madeCells #[.int .u64 0] n) 57)) #[.bool true, .slice (some ⟨w.heap.size, 0, none⟩) n n, .int .i64 0, .int .i64 0] 64 _ rfl
  rw [World.size_alloc] at G
  clear hz
  go_enter Try.func33, Try.ntmps33
  go_wp2
  go_ret
  refine ⟨_, w.heap.size, rfl, ⟨G, (B2.block _ hrow.lt).trans hrow, List.length_replicate, ?_, ?_, Nat.le_refl _, Nat.zero_le _, Nat.zero_le _, hn⟩, below_both B1 B2⟩
  · omega
  · omega
section
variable {b g s n u h : Nat} {ws : List Nat} {W : World}
set_option maxHeartbeats 4000000 in
theorem ar_take_shape (A : AN b W g s n u h ws) {R C : Int} (hno : ¬ ((0 ≤ R ∧ R ≤ 64) ∧ (0 ≤ C ∧ C ≤ 64))) : Calls Try.prog 34 #[.pointer (some ⟨g, 0, none⟩), .int .i64 R, .int .i64 C] W fun e W' => e = .returned (.tuple #[.agg #[.int .i64 0, .int .i64 0, .int .i64 0, .int .i64 0], .int .i64 11]) ∧ Below W.heap.size W W' := by
  obtain ⟨B, G⟩ := mbox W #[.int .i64 0, .int .i64 0, .int .i64 0, .int .i64 0] 23 _ rfl
  have hm := ar_made (A.behind B).cell0
  have hs1 := fun w => ar_side (n := R) (w := w)
  have hs2 := fun w => ar_side (n := C) (w := w)
  have g0 := G.cell (i := 0) rfl
  have g1 := G.cell (i := 1) rfl
  have g2 := G.cell (i := 2) rfl
  have g3 := G.cell (i := 3) rfl
  have f0 := G.f 0
  have f1 := G.f 1
  have f2 := G.f 2
  have f3 := G.f 3
  clear A
  by_cases k1 : 0 ≤ R ∧ R ≤ 64
  · have k2 : ¬ (0 ≤ C ∧ C ≤ 64) := fun h => hno ⟨k1, h⟩
    rw [decide_eq_true k1] at hs1
    rw [decide_eq_false k2] at hs2
    clear hno k1 k2
    go_enter Try.func34, Try.ntmps34
    go_wp2_with fail
    generalize W.alloc (.cells #[.int .i64 0, .int .i64 0, .int .i64 0, .int .i64 0] 23) = W0 at *
    refine hm.mono ?_
    rintro e w1 ⟨rfl, rfl⟩
    go_wp2_with fail
    refine (hs1 _).mono ?_
    rintro e w1 ⟨rfl, rfl⟩
    go_wp2_with fail
    refine (hs2 _).mono ?_
    rintro e w1 ⟨rfl, rfl⟩
    go_wp2
    exact bodyPost_ret (v := .tuple #[.agg #[.int .i64 0, .int .i64 0, .int .i64 0, .int .i64 0], .int .i64 11]) (by simp [results, Try.results34, go_sem, g0, g1, g2, g3]) rfl
      ⟨rfl, ar_put4 B (Nat.le_refl _) _ _ _ _⟩
  · rw [decide_eq_false k1] at hs1
    clear hno k1
    go_enter Try.func34, Try.ntmps34
    go_wp2_with fail
    generalize W.alloc (.cells #[.int .i64 0, .int .i64 0, .int .i64 0, .int .i64 0] 23) = W0 at *
    refine hm.mono ?_
    rintro e w1 ⟨rfl, rfl⟩
    go_wp2_with fail
    refine (hs1 _).mono ?_
    rintro e w1 ⟨rfl, rfl⟩
    go_wp2
    exact bodyPost_ret (v := .tuple #[.agg #[.int .i64 0, .int .i64 0, .int .i64 0, .int .i64 0], .int .i64 11]) (by simp [results, Try.results34, go_sem, g0, g1, g2, g3]) rfl
      ⟨rfl, ar_put4 B (Nat.le_refl _) _ _ _ _⟩
set_option maxHeartbeats 4000000 in
theorem ar_take_full (A : AN b W g s n u h ws) {r c P : Nat} (hr : r ≤ 64) (hc : c ≤ 64) (hP : r * c = P) (ho : ¬ u + P ≤ n) : Calls Try.prog 34 #[.pointer (some ⟨g, 0, none⟩), .int .i64 (r : Int), .int .i64 (c : Int)] W fun e W' => e = .returned (.tuple #[.agg #[.int .i64 0, .int .i64 0, .int .i64 0, .int .i64 0], .int .i64 14]) ∧ Below W.heap.size W W' := by
  obtain ⟨B, G⟩ := mbox W #[.int .i64 0, .int .i64 0, .int .i64 0, .int .i64 0] 23 _ rfl
  have A1 := A.behind B
  have hm := ar_made A1.cell0
  have hl := ar_left A1
  have hs1 := fun w => ar_side (n := (r : Int)) (w := w)
  have hs2 := fun w => ar_side (n := (c : Int)) (w := w)
  rw [decide_eq_true (show (0 : Int) ≤ r ∧ (r : Int) ≤ 64 by omega)] at hs1
  rw [decide_eq_true (show (0 : Int) ≤ c ∧ (c : Int) ≤ 64 by omega)] at hs2
  have hP4 : P ≤ 4096 := by rw [← hP]; exact Nat.le_trans (Nat.mul_le_mul hr hc) (by decide)
  have e1 : IntKind.i64.wrap ((r : Int) * (c : Int)) = (P : Int) := by rw [← Int.natCast_mul, hP]; exact IntWalk.i64_in _ (by omega)
  have hu := A.un
  have ht := A.top
  have q1 : decide ((n : Int) - u < (P : Int)) = true := decide_eq_true (by omega)
  clear A A1 hP
  go_enter Try.func34, Try.ntmps34
  go_wp2_with fail
  generalize W.alloc (.cells #[.int .i64 0, .int .i64 0, .int .i64 0, .int .i64 0] 23) = W0 at *
  refine hm.mono ?_
  rintro e w1 ⟨rfl, rfl⟩
  go_wp2_with fail
  refine (hs1 _).mono ?_
  rintro e w1 ⟨rfl, rfl⟩
  go_wp2_with fail
  refine (hs2 _).mono ?_
  rintro e w1 ⟨rfl, rfl⟩
  go_wp2_with fail
  refine hl.mono ?_
  rintro e w2 ⟨rfl, b2⟩
  replace G := G.behind b2
  replace B := below_both B b2
  have g0 := G.cell (i := 0) rfl
  have g1 := G.cell (i := 1) rfl
  have g2 := G.cell (i := 2) rfl
  have g3 := G.cell (i := 3) rfl
  have f0 := G.f 0
  have f1 := G.f 1
  have f2 := G.f 2
  have f3 := G.f 3
  go_wp2
  exact bodyPost_ret (v := .tuple #[.agg #[.int .i64 0, .int .i64 0, .int .i64 0, .int .i64 0], .int .i64 14]) (by simp [results, Try.results34, go_sem, g0, g1, g2, g3]) rfl
    ⟨rfl, ar_put4 B (Nat.le_refl _) _ _ _ _⟩
theorem ar_release_no (A : AN b W g s n u h ws) {M : Int} (hno : ¬ (0 ≤ M ∧ M ≤ u)) : Calls Try.prog 36 #[.pointer (some ⟨g, 0, none⟩), .int .i64 M] W fun e W' => e = .returned (.int .i64 4) ∧ Below W.heap.size W W' := by
  have hm := ar_made A.cell0
  have c2 := A.cell2
  clear A
  by_cases k1 : 0 ≤ M
  · have k2 : ¬ M ≤ u := fun h => hno ⟨k1, h⟩
    clear hno
    go_enter Try.func36, Try.ntmps36
    go_wp2_with fail
    refine hm.mono ?_
    rintro e w1 ⟨rfl, rfl⟩
    go_wp2
    go_ret
    exact ⟨rfl, Below.refl _ _⟩
  · clear hno
    go_enter Try.func36, Try.ntmps36
    go_wp2_with fail
    refine hm.mono ?_
    rintro e w1 ⟨rfl, rfl⟩
    go_wp2
    go_ret
    exact ⟨rfl, Below.refl _ _⟩
theorem ar_release (A : AN b W g s n u h ws) {m : Nat} (hm' : m ≤ u) : Calls Try.prog 36 #[.pointer (some ⟨g, 0, none⟩), .int .i64 (m : Int)] W fun e W' => e = .returned (.int .i64 0) ∧ AN b W' g s n m h ws ∧ Kp g s W W' ∧ Below b W W' := by
  have hm := ar_made A.cell0
  have c2 := A.cell2
  have f2 := A.box.f 2
  have A2 := A.lent m (Nat.le_trans hm' A.un)
  have D : Below b W (W.setCell ⟨g, 2, none⟩ (.int .i64 (m : Int))) := (Below.refl _ _).setCell (p := ⟨g, 2, none⟩) A.bg _
  clear A
  go_enter Try.func36, Try.ntmps36
  go_wp2_with fail
  refine hm.mono ?_
  rintro e w1 ⟨rfl, rfl⟩
  go_wp2
  go_ret
  exact ⟨rfl, A2, Kp.cell (i := 2) _, D⟩
end
end Go.Proofs.Ytgppbimbampenaa
