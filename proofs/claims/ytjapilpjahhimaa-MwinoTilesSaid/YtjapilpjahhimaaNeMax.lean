/- max of two ints. -/
import Derived.Test.YtjapilpjahhimaaOu
import Derived.Test.YtjapilpjahhimaaOw
import Derived.Laws.CopyOwn
import Derived.BigRegion
import Derived.BigQuiet
namespace Go.Proofs.Ytjapilpjahhimaa
open Go.RowKit Go.Shelf
theorem max_twoM (w : World) (ts : Array TypeId) (t : TypeId) (x y : Int) : (Builtin.max_ ts t #[.int .i64 x, .int .i64 y]).run Try.prog w = .ok (.int .i64 (max x y)) w := by
  have e1 : max x y = if y > x then y else x := by split <;> omega
  rw [e1]
  simp [Builtin.max_, Builtin.max2]
end Go.Proofs.Ytjapilpjahhimaa

/- arena: isMade, isSide, New, Mark, High, Left, Words: what the calls keep. -/
namespace Go.Proofs.Ytjapilpjahhimaa
open Go.RowKit Go.Shelf
/-- block g is this list of words -/
def Wr (W : World) (g : Nat) (L : List Nat) : Prop := W.heap[g]? = some (.cells (valsK .u64 (zn L)).toArray 49 (0, 0))
section
variable {W W' : World} {g : Nat} {L : List Nat}
theorem Wr.cell (h : Wr W g L) {j : Nat} (hj : j < L.length) : W.cell? ⟨g, j, none⟩ = some (.int .u64 ((lim L j : Nat) : Int)) := by
  rw [cell_of_row W g j _ _ (0, 0) h, List.getElem?_toArray, valsK_get (by rw [zn_length]; exact hj)]
  congr 2
  unfold zat zn lim
  rw [List.getElem?_map]
  cases L[j]? <;> rfl
theorem Wr.f (h : Wr W g L) (j : Nat) : W.frozen? ⟨g, j, none⟩ = false := by simp [World.frozen?, show W.heap[g]? = _ from h]
theorem Wr.drew (h : Wr W g L) : Wr W.drew g L := h
theorem Wr.set (h : Wr W g L) (j z : Nat) : Wr (W.setCell ⟨g, j, none⟩ (.int .u64 (z : Int))) g (L.set j z) := by
  unfold Wr at h ⊢
  rw [zn_set]
  simp [World.setCell, Array.getElem?_modify, h, valsK, List.map_set]
theorem Wr.put (h : Wr W g L) {p : Addr} (hp : g ≠ p.block) (u : Value) : Wr (W.setCell p u) g L := (Below.heap_setCell _ _ _ _ hp).trans h
theorem Wr.lt (h : Wr W g L) : g < W.heap.size := (Array.getElem?_eq_some_iff.1 h).1
end
/-- no block but g and s was written to -/
structure Kp (g s : Nat) (W W' : World) : Prop where
  size : W.heap.size ≤ W'.heap.size
  keep : ∀ j, j < W.heap.size → j ≠ g → j ≠ s → W'.heap[j]? = W.heap[j]?
theorem Kp.ms {g s : Nat} {W W' : World} (k : Kp g s W W') {j : Nat} {cs : Array Value} {t : TypeId} (h : Ms W j cs t) (h1 : j ≠ g) (h2 : j ≠ s) : Ms W' j cs t :=
  (k.keep j (Array.getElem?_eq_some_iff.1 h).1 h1 h2).trans h
/-- an arena that the call itself has made, behind block number b -/
structure AN (b : Nat) (W : World) (g s n u h : Nat) (ws : List Nat) : Prop where
  box : Ms W g #[.bool true, .slice (some ⟨s, 0, none⟩) n n, .int .i64 (u : Int), .int .i64 (h : Int)] 73
  row : Wr W s ws
  len : ws.length = n
  ne : g ≠ s
  bg : b ≤ g
  bs : b ≤ s
  un : u ≤ n
  hn : h ≤ n
  top : n ≤ 1048576
section
variable {b g s n u h : Nat} {ws : List Nat} {W W' : World}
theorem AN.behind (A : AN b W g s n u h ws) (hb : Below W.heap.size W W') : AN b W' g s n u h ws :=
  ⟨A.box.behind hb, (hb.block s A.row.lt).trans A.row, A.len, A.ne, A.bg, A.bs, A.un, A.hn, A.top⟩
theorem AN.drew (A : AN b W g s n u h ws) : AN b W.drew g s n u h ws := ⟨A.box, A.row, A.len, A.ne, A.bg, A.bs, A.un, A.hn, A.top⟩
theorem AN.cell0 (A : AN b W g s n u h ws) : W.cell? ⟨g, 0, none⟩ = some (.bool true) := A.box.cell (i := 0) rfl
theorem AN.cell1 (A : AN b W g s n u h ws) : W.cell? ⟨g, 1, none⟩ = some (.slice (some ⟨s, 0, none⟩) n n) := A.box.cell (i := 1) rfl
theorem AN.cell2 (A : AN b W g s n u h ws) : W.cell? ⟨g, 2, none⟩ = some (.int .i64 (u : Int)) := A.box.cell (i := 2) rfl
theorem AN.cell3 (A : AN b W g s n u h ws) : W.cell? ⟨g, 3, none⟩ = some (.int .i64 (h : Int)) := A.box.cell (i := 3) rfl
theorem AN.arg (A : AN b W g s n u h ws) : Arg W (.slice (some ⟨s, 0, none⟩) n n) ws := by
  refine ⟨s, A.row.lt, .inr ⟨0, n, by rw [A.len], by rw [A.len]; exact Nat.le_refl _, fun j hj => ?_⟩⟩
  rw [Nat.zero_add, A.row.cell (by simpa using hj)]
end
theorem ar_made {g : Nat} {c : Bool} {W : World} (h : W.cell? ⟨g, 0, none⟩ = some (.bool c)) : Calls Try.prog 50 #[.pointer (some ⟨g, 0, none⟩)] W fun e W' => e = .returned (.bool c) ∧ W = W' := by
  go_enter Try.func50, Try.ntmps50
  go_wp2
  go_ret
  exact ⟨rfl, rfl⟩
theorem ar_nil {W : World} : Calls Try.prog 50 #[.pointer none] W fun e W' => e = .returned (.bool false) ∧ W = W' := by
  go_enter Try.func50, Try.ntmps50
  go_wp2
  go_ret
  exact ⟨rfl, rfl⟩
theorem ar_side {n : Int} {w : World} : Calls Try.prog 51 #[.int .i64 n] w fun e W' => e = .returned (.bool (decide (0 ≤ n ∧ n ≤ 64))) ∧ w = W' := by
  by_cases k1 : 0 ≤ n
  · by_cases k2 : n ≤ 64
    · rw [decide_eq_true (show 0 ≤ n ∧ n ≤ 64 from ⟨k1, k2⟩)]
      go_enter Try.func51, Try.ntmps51
      go_wp2
      go_ret
      exact ⟨rfl, rfl⟩
    · rw [decide_eq_false (fun h : 0 ≤ n ∧ n ≤ 64 => k2 h.2)]
      go_enter Try.func51, Try.ntmps51
      go_wp2
      go_ret
      exact ⟨rfl, rfl⟩
  · rw [decide_eq_false (fun h : 0 ≤ n ∧ n ≤ 64 => k1 h.1)]
    go_enter Try.func51, Try.ntmps51
    go_wp2
    go_ret
    exact ⟨rfl, rfl⟩
section
variable {b g s n u h : Nat} {ws : List Nat} {W : World}
theorem ar_mark (A : AN b W g s n u h ws) : Calls Try.prog 20 #[.pointer (some ⟨g, 0, none⟩)] W fun e W' => e = .returned (.int .i64 (u : Int)) ∧ W = W' := by
  have c2 := A.cell2
  have hm := ar_made A.cell0
  go_enter Try.func20, Try.ntmps20
  go_wp2_with fail
  refine hm.mono ?_
  rintro e w1 ⟨rfl, rfl⟩
  go_wp2
  go_ret
  exact ⟨rfl, rfl⟩
theorem ar_high (A : AN b W g s n u h ws) : Calls Try.prog 23 #[.pointer (some ⟨g, 0, none⟩)] W fun e W' => e = .returned (.int .i64 (h : Int)) ∧ W = W' := by
  have c2 := A.cell3
  have hm := ar_made A.cell0
  go_enter Try.func23, Try.ntmps23
  go_wp2_with fail
  refine hm.mono ?_
  rintro e w1 ⟨rfl, rfl⟩
  go_wp2
  go_ret
  exact ⟨rfl, rfl⟩
theorem ar_left (A : AN b W g s n u h ws) : Calls Try.prog 21 #[.pointer (some ⟨g, 0, none⟩)] W fun e W' => e = .returned (.int .i64 ((n : Int) - u)) ∧ Below W.heap.size W W' := by
  have c1 := A.cell1
  have c2 := A.cell2
  have hm := ar_made A.cell0
  have hu := A.un
  have ht := A.top
  clear A
  go_enter Try.func21, Try.ntmps21
  go_wp2_with fail
  refine hm.mono ?_
  rintro e w1 ⟨rfl, rfl⟩
  go_wp2_with fail
  go_region
  go_wp2
  go_ret
  refine ⟨rfl, (Below.refl _ _).drew⟩
end
theorem ar_new {z : Int} {n : Nat} (hz : z = (n : Int)) (hn : n ≤ 1048576) {w : World} : Calls Try.prog 18 #[.int .i64 z] w fun e W' => ∃ g s, e = .returned (.pointer (some ⟨g, 0, none⟩)) ∧ AN w.heap.size W' g s n 0 0 (List.replicate n 0) ∧ Below w.heap.size w W' := by
  subst hz
  have hmx : ∀ (w : World) (ts : Array TypeId) (t : TypeId), (Builtin.max_ ts t #[.int .i64 (n : Int), .int .i64 0]).run Try.prog w = .ok (.int .i64 (n : Int)) w := fun w ts t => by
    rw [max_twoM, show max (n : Int) 0 = n by omega]
  have hmn : ∀ (w : World) (ts : Array TypeId) (t : TypeId), (Builtin.min_ ts t #[.int .i64 (n : Int), .int .i64 1048576]).run Try.prog w = .ok (.int .i64 (n : Int)) w := fun w ts t => by
    have e : (if (1048576 : Int) < (n : Int) then (1048576 : Int) else n) = n := by rw [if_neg]; omega
    simp [Builtin.min_, Builtin.min2, e]
  have hmk := fun u => makeN_u64 n (by omega) u
  have B1 : Below w.heap.size w (w.alloc (.cells (madeCells #[.int .u64 0] n) 49)) := (Below.refl _ w).alloc (Nat.le_refl _) _
  have hrow : Wr (w.alloc (.cells (madeCells #[.int .u64 0] n) 49)) w.heap.size (List.replicate n 0) := by
    unfold Wr World.alloc
    have h := valsK_zeros .u64 n
    have e : zn (List.replicate n 0) = List.replicate n 0 := by unfold zn; rw [List.map_replicate]; rfl
    rw [e, ← h]
    simp
  obtain ⟨B2, G⟩ := mbox (w.alloc (.cells (madeCells #[.int .u64 0] n) 49)) #[.bool true, .slice (some ⟨w.heap.size, 0, none⟩) n n, .int .i64 0, .int .i64 0] 73 _ rfl
  rw [World.size_alloc] at G
  go_enter Try.func18, Try.ntmps18
  go_wp2
  go_ret
  refine ⟨_, w.heap.size, rfl, ⟨G, (B2.block _ hrow.lt).trans hrow, List.length_replicate, ?_, ?_, Nat.le_refl _, Nat.zero_le _, Nat.zero_le _, hn⟩, below_both B1 B2⟩
  · omega
  · omega
theorem ar_put4 {b : Nat} {W W' : World} (h : Below b W W') {g : Nat} (hg : b ≤ g) (x0 x1 x2 x3 : Value) : Below b W ((((W'.setCell ⟨g, 0, none⟩ x0).setCell ⟨g, 1, none⟩ x1).setCell ⟨g, 2, none⟩ x2).setCell ⟨g, 3, none⟩ x3) :=
  (((h.setCell hg _).setCell hg _).setCell hg _).setCell hg _
section
variable {p : Value} {W : World}
theorem un_mark (hm : Calls Try.prog 50 #[p] W fun e W' => e = .returned (.bool false) ∧ W = W') : Calls Try.prog 20 #[p] W fun e W' => e = .returned (.int .i64 0) ∧ W = W' := by
  go_enter Try.func20, Try.ntmps20
  go_wp2_with fail
  refine hm.mono ?_
  rintro e w1 ⟨rfl, rfl⟩
  go_wp2
  go_ret
  exact ⟨rfl, rfl⟩
theorem un_high (hm : Calls Try.prog 50 #[p] W fun e W' => e = .returned (.bool false) ∧ W = W') : Calls Try.prog 23 #[p] W fun e W' => e = .returned (.int .i64 0) ∧ W = W' := by
  go_enter Try.func23, Try.ntmps23
  go_wp2_with fail
  refine hm.mono ?_
  rintro e w1 ⟨rfl, rfl⟩
  go_wp2
  go_ret
  exact ⟨rfl, rfl⟩
theorem un_left (hm : Calls Try.prog 50 #[p] W fun e W' => e = .returned (.bool false) ∧ W = W') : Calls Try.prog 21 #[p] W fun e W' => e = .returned (.int .i64 0) ∧ W = W' := by
  go_enter Try.func21, Try.ntmps21
  go_wp2_with fail
  refine hm.mono ?_
  rintro e w1 ⟨rfl, rfl⟩
  go_wp2
  go_ret
  exact ⟨rfl, rfl⟩
theorem un_release {n : Int} (hm : Calls Try.prog 50 #[p] W fun e W' => e = .returned (.bool false) ∧ W = W') : Calls Try.prog 53 #[p, .int .i64 n] W fun e W' => e = .returned (.int .i64 9) ∧ W = W' := by
  go_enter Try.func53, Try.ntmps53
  go_wp2_with fail
  refine hm.mono ?_
  rintro e w1 ⟨rfl, rfl⟩
  go_wp2
  go_ret
  exact ⟨rfl, rfl⟩
theorem un_take {R C : Int} (hm : ∀ W', Below W.heap.size W W' → Calls Try.prog 50 #[p] W' fun e W'' => e = .returned (.bool false) ∧ W' = W'') : Calls Try.prog 19 #[p, .int .i64 R, .int .i64 C] W fun e W' => e = .returned (.tuple #[.agg #[.int .i64 0, .int .i64 0, .int .i64 0, .int .i64 0], .int .i64 9]) ∧ Below W.heap.size W W' := by
  obtain ⟨B, G⟩ := mbox W #[.int .i64 0, .int .i64 0, .int .i64 0, .int .i64 0] 38 _ rfl
  have hm := hm _ B
  have g0 := G.cell (i := 0) rfl
  have g1 := G.cell (i := 1) rfl
  have g2 := G.cell (i := 2) rfl
  have g3 := G.cell (i := 3) rfl
  have f0 := G.f 0
  have f1 := G.f 1
  have f2 := G.f 2
  have f3 := G.f 3
  go_enter Try.func19, Try.ntmps19
  go_wp2_with fail
  generalize W.alloc (.cells #[.int .i64 0, .int .i64 0, .int .i64 0, .int .i64 0] 38) = W0 at *
  refine hm.mono ?_
  rintro e w1 ⟨rfl, rfl⟩
  go_wp2
  exact bodyPost_ret (v := .tuple #[.agg #[.int .i64 0, .int .i64 0, .int .i64 0, .int .i64 0], .int .i64 9]) (by simp [results, Try.results19, go_sem, g0, g1, g2, g3]) rfl
    ⟨rfl, ar_put4 B (Nat.le_refl _) _ _ _ _⟩
theorem un_lend {R C S O : Int} (hm : ∀ W', Below W.heap.size W W' → Calls Try.prog 50 #[p] W' fun e W'' => e = .returned (.bool false) ∧ W' = W'') : Calls Try.prog 52 #[p, .agg #[.int .i64 R, .int .i64 C, .int .i64 S, .int .i64 O]] W fun e W' => e = .returned (.slice none 0 0) ∧ Below W.heap.size W W' := by
  have B : Below W.heap.size W (W.alloc (.cells #[.int .i64 R, .int .i64 C, .int .i64 S, .int .i64 O] 38)) := (Below.refl _ W).alloc (Nat.le_refl _) _
  go_enter Try.func52, Try.ntmps52
  go_wp2_with fail
  refine (hm _ B).mono ?_
  rintro e w1 ⟨rfl, rfl⟩
  go_wp2
  go_ret
  exact ⟨rfl, B⟩
end
end Go.Proofs.Ytjapilpjahhimaa

/- arena: Lend. -/
namespace Go.Proofs.Ytjapilpjahhimaa
open Go.RowKit Go.Shelf
def lentS (s o c : Nat) : Value := .slice (some ⟨s, if c = 0 then 0 else o, none⟩) c c
def lendB (u R C S O : Int) : Bool := decide ((0 ≤ R ∧ R ≤ 64) ∧ (0 ≤ C ∧ C ≤ 64) ∧ S = C ∧ 0 ≤ O ∧ O ≤ u - R * C)
section
variable {b g s n u h : Nat} {ws : List Nat} {W : World}
set_option maxHeartbeats 4000000 in
theorem ar_lend_yes (A : AN b W g s n u h ws) {r c o P : Nat} (hr : r ≤ 64) (hc : c ≤ 64) (hP : r * c = P) (ho : o + P ≤ u) :
    Calls Try.prog 52 #[.pointer (some ⟨g, 0, none⟩), .agg #[.int .i64 (r : Int), .int .i64 (c : Int), .int .i64 (c : Int), .int .i64 (o : Int)]] W fun e W' => e = .returned (lentS s o P) ∧ Below W.heap.size W W' := by
  obtain ⟨B, G⟩ := mbox W #[.int .i64 (r : Int), .int .i64 (c : Int), .int .i64 (c : Int), .int .i64 (o : Int)] 38 _ rfl
  have A1 := A.behind B
  have hm := ar_made A1.cell0
  have c1 := A1.cell1
  have c2 := A1.cell2
  have g0 := G.cell (i := 0) rfl
  have g1 := G.cell (i := 1) rfl
  have g2 := G.cell (i := 2) rfl
  have g3 := G.cell (i := 3) rfl
  have hs1 := fun w => ar_side (n := (r : Int)) (w := w)
  have hs2 := fun w => ar_side (n := (c : Int)) (w := w)
  rw [decide_eq_true (show (0 : Int) ≤ r ∧ (r : Int) ≤ 64 by omega)] at hs1
  rw [decide_eq_true (show (0 : Int) ≤ c ∧ (c : Int) ≤ 64 by omega)] at hs2
  have hP4 : P ≤ 4096 := by rw [← hP]; exact Nat.le_trans (Nat.mul_le_mul hr hc) (by decide)
  have e1 : IntKind.i64.wrap ((r : Int) * (c : Int)) = (P : Int) := by rw [← Int.natCast_mul, hP]; exact IntWalk.i64_in _ (by omega)
  have hu := A.un
  have ht := A.top
  clear hP A A1
  have q1 : decide ((o : Int) < 0) = false := decide_eq_false (by omega)
  have q2 : decide ((u : Int) - (P : Int) < (o : Int)) = false := decide_eq_false (by omega)
  by_cases h0 : P = 0
  · subst h0
    rw [show lentS s o 0 = .slice (some ⟨s, 0, none⟩) 0 0 from rfl]
    go_enter Try.func52, Try.ntmps52
    go_wp2_with fail
    generalize W.alloc (.cells #[.int .i64 (r : Int), .int .i64 (c : Int), .int .i64 (c : Int), .int .i64 (o : Int)] 38) = W0 at *
    refine hm.mono ?_
    rintro e w1 ⟨rfl, rfl⟩
    go_wp2_with fail
    refine (hs1 _).mono ?_
    rintro e w1 ⟨rfl, rfl⟩
    go_wp2_with fail
    refine (hs2 _).mono ?_
    rintro e w1 ⟨rfl, rfl⟩
    clear hm hs1 hs2
    go_wp2_with fail
    go_quiet (fail)
    go_wp2
    go_quiet (fail)
    go_wp2
    go_ret
    exact ⟨rfl, below_both (below_both B (below_drewN _ _ _)) (below_drewN _ _ _)⟩
  · rw [show lentS s o P = .slice (some ⟨s, o, none⟩) P P by unfold lentS; rw [if_neg h0]]
    go_enter Try.func52, Try.ntmps52
    go_wp2_with fail
    generalize W.alloc (.cells #[.int .i64 (r : Int), .int .i64 (c : Int), .int .i64 (c : Int), .int .i64 (o : Int)] 38) = W0 at *
    refine hm.mono ?_
    rintro e w1 ⟨rfl, rfl⟩
    go_wp2_with fail
    refine (hs1 _).mono ?_
    rintro e w1 ⟨rfl, rfl⟩
    go_wp2_with fail
    refine (hs2 _).mono ?_
    rintro e w1 ⟨rfl, rfl⟩
    clear hm hs1 hs2
    go_wp2_with fail
    go_quiet (fail)
    go_wp2
    go_quiet (fail)
    go_wp2
    go_ret
    refine ⟨?_, below_both (below_both B (below_drewN _ _ _)) (below_drewN _ _ _)⟩
    show Ending.returned (Value.slice (some ⟨s, o, none⟩) (o + P - o) (o + P - o)) = _
    rw [Nat.add_sub_cancel_left]
set_option maxHeartbeats 8000000 in
theorem ar_lend_no (A : AN b W g s n u h ws) {R C S O : Int} (hno : lendB u R C S O = false) :
    Calls Try.prog 52 #[.pointer (some ⟨g, 0, none⟩), .agg #[.int .i64 R, .int .i64 C, .int .i64 S, .int .i64 O]] W fun e W' => e = .returned (.slice none 0 0) ∧ Below W.heap.size W W' := by
  obtain ⟨B, G⟩ := mbox W #[.int .i64 R, .int .i64 C, .int .i64 S, .int .i64 O] 38 _ rfl
  have A1 := A.behind B
  have hm := ar_made A1.cell0
  have c1 := A1.cell1
  have c2 := A1.cell2
  have g0 := G.cell (i := 0) rfl
  have g1 := G.cell (i := 1) rfl
  have g2 := G.cell (i := 2) rfl
  have g3 := G.cell (i := 3) rfl
  have hs1 := fun w => ar_side (n := R) (w := w)
  have hs2 := fun w => ar_side (n := C) (w := w)
  have hu := A.un
  have ht := A.top
  have hno : ¬ ((0 ≤ R ∧ R ≤ 64) ∧ (0 ≤ C ∧ C ≤ 64) ∧ S = C ∧ 0 ≤ O ∧ O ≤ u - R * C) := of_decide_eq_false hno
  clear A A1
  by_cases k1 : 0 ≤ R ∧ R ≤ 64
  · rw [decide_eq_true k1] at hs1
    by_cases k2 : 0 ≤ C ∧ C ≤ 64
    · rw [decide_eq_true k2] at hs2
      obtain ⟨r, rfl⟩ : ∃ r : Nat, R = r := ⟨R.toNat, by omega⟩
      obtain ⟨c, rfl⟩ : ∃ c : Nat, C = c := ⟨C.toNat, by omega⟩
      obtain ⟨P, hP⟩ : ∃ P, r * c = P := ⟨_, rfl⟩
      have hP4 : P ≤ 4096 := by rw [← hP]; exact Nat.le_trans (Nat.mul_le_mul (show r ≤ 64 by omega) (show c ≤ 64 by omega)) (by decide)
      have e1 : IntKind.i64.wrap ((r : Int) * (c : Int)) = (P : Int) := by rw [← Int.natCast_mul, hP]; exact IntWalk.i64_in _ (by omega)
      rw [← Int.natCast_mul, hP] at hno
      by_cases k3 : S = (c : Int)
      · subst k3
        clear hP
        by_cases k4 : 0 ≤ O
        · have k5 : ¬ O ≤ (u : Int) - P := fun h => hno ⟨k1, k2, rfl, k4, h⟩
          have q1 : decide (O < 0) = false := decide_eq_false (by omega)
          have q2 : decide ((u : Int) - (P : Int) < O) = true := decide_eq_true (by omega)
          clear hno k1 k2
          go_enter Try.func52, Try.ntmps52
          go_wp2_with fail
          generalize W.alloc (.cells #[.int .i64 (r : Int), .int .i64 (c : Int), .int .i64 (c : Int), .int .i64 O] 38) = W0 at *
          refine hm.mono ?_
          rintro e w1 ⟨rfl, rfl⟩
          go_wp2_with fail
          refine (hs1 _).mono ?_
          rintro e w1 ⟨rfl, rfl⟩
          go_wp2_with fail
          refine (hs2 _).mono ?_
          rintro e w1 ⟨rfl, rfl⟩
          clear hm hs1 hs2
          go_wp2_with fail
          go_quiet (fail)
          go_wp2
          go_ret
          exact ⟨rfl, below_both B (below_drewN _ _ _)⟩
        · have q1 : decide (O < 0) = true := decide_eq_true (by omega)
          clear hno k1 k2
          go_enter Try.func52, Try.ntmps52
          go_wp2_with fail
          generalize W.alloc (.cells #[.int .i64 (r : Int), .int .i64 (c : Int), .int .i64 (c : Int), .int .i64 O] 38) = W0 at *
          refine hm.mono ?_
          rintro e w1 ⟨rfl, rfl⟩
          go_wp2_with fail
          refine (hs1 _).mono ?_
          rintro e w1 ⟨rfl, rfl⟩
          go_wp2_with fail
          refine (hs2 _).mono ?_
          rintro e w1 ⟨rfl, rfl⟩
          clear hm hs1 hs2
          go_wp2_with fail
          go_quiet (fail)
          go_wp2
          go_ret
          exact ⟨rfl, below_both B (below_drewN _ _ _)⟩
      · clear hno hP k1 k2
        go_enter Try.func52, Try.ntmps52
        go_wp2_with fail
        generalize W.alloc (.cells #[.int .i64 (r : Int), .int .i64 (c : Int), .int .i64 S, .int .i64 O] 38) = W0 at *
        refine hm.mono ?_
        rintro e w1 ⟨rfl, rfl⟩
        go_wp2_with fail
        refine (hs1 _).mono ?_
        rintro e w1 ⟨rfl, rfl⟩
        go_wp2_with fail
        refine (hs2 _).mono ?_
        rintro e w1 ⟨rfl, rfl⟩
        clear hm hs1 hs2
        go_wp2
        go_ret
        exact ⟨rfl, B⟩
    · rw [decide_eq_false k2] at hs2
      clear hno k1 k2
      go_enter Try.func52, Try.ntmps52
      go_wp2_with fail
      generalize W.alloc (.cells #[.int .i64 R, .int .i64 C, .int .i64 S, .int .i64 O] 38) = W0 at *
      refine hm.mono ?_
      rintro e w1 ⟨rfl, rfl⟩
      go_wp2_with fail
      refine (hs1 _).mono ?_
      rintro e w1 ⟨rfl, rfl⟩
      go_wp2_with fail
      refine (hs2 _).mono ?_
      rintro e w1 ⟨rfl, rfl⟩
      go_wp2
      go_ret
      exact ⟨rfl, B⟩
  · rw [decide_eq_false k1] at hs1
    clear hno k1
    go_enter Try.func52, Try.ntmps52
    go_wp2_with fail
    generalize W.alloc (.cells #[.int .i64 R, .int .i64 C, .int .i64 S, .int .i64 O] 38) = W0 at *
    refine hm.mono ?_
    rintro e w1 ⟨rfl, rfl⟩
    go_wp2_with fail
    refine (hs1 _).mono ?_
    rintro e w1 ⟨rfl, rfl⟩
    go_wp2
    go_ret
    exact ⟨rfl, B⟩
end
end Go.Proofs.Ytjapilpjahhimaa

/- arena: clear, Take. -/
namespace Go.Proofs.Ytjapilpjahhimaa
open Go.RowKit Go.Shelf
def clrL (ws : List Nat) (o P : Nat) : List Nat := ws.take o ++ List.replicate P 0 ++ ws.drop (o + P)
theorem clrL_length {ws : List Nat} {o P : Nat} (h : o + P ≤ ws.length) : (clrL ws o P).length = ws.length := by
  unfold clrL
  simp only [List.length_append, List.length_take, List.length_replicate, List.length_drop]
  omega
theorem clrL_at {ws : List Nat} {o P j : Nat} (h : o + P ≤ ws.length) : lim (clrL ws o P) j = if o ≤ j ∧ j < o + P then 0 else lim ws j := by
  unfold lim clrL
  rw [List.append_assoc, List.getElem?_append, List.length_take, show min o ws.length = o by omega]
  by_cases h1 : j < o
  · rw [if_pos h1, if_neg (by omega), List.getElem?_take, if_pos h1]
  · rw [if_neg h1, List.getElem?_append, List.length_replicate]
    by_cases h2 : j - o < P
    · rw [if_pos h2, if_pos (by omega), List.getElem?_replicate, if_pos h2]; rfl
    · rw [if_neg h2, if_neg (by omega), List.getElem?_drop]
      congr 2; omega
theorem clrL_vals {ws : List Nat} {o P : Nat} : valsK .u64 (zn (clrL ws o P)) = (valsK .u64 (zn ws)).take o ++ List.replicate P (.int .u64 0) ++ (valsK .u64 (zn ws)).drop (o + P) := by
  unfold clrL valsK zn
  simp only [List.map_append, List.map_take, List.map_drop, List.map_replicate]
  rfl
theorem zeros_word (P : Nat) : (Builtin.zeroCells #[Value.int .u64 0] P).toList = List.replicate P (.int .u64 0) := by
  have e : (fun i : Nat => (#[Value.int .u64 0])[i % (#[Value.int .u64 0]).size]!) = fun _ => Value.int .u64 0 := by
    funext i
    have h : i % 1 = 0 := Nat.mod_one i
    simp [h]
  unfold Builtin.zeroCells
  rw [e]
  simp [List.eq_replicate_iff]
theorem wpList_clear {ops : Array Oper} {rest : List Oper} {o : Oper} {a : Act} {Q : Exit → Act → World → Prop} {W : World} (hgd : o.guard = none) (x : Operand)
    (ho : o.op = .call { callee := .builtin .clear, args := #[x], argTypes := #[22] }) {s off P : Nat} {ws : List Nat} (hx : a.eval x = lentS s off P) (hrow : Wr W s ws) (hfit : off + P ≤ ws.length)
    (h : ∀ W', Hid (Wr W' s (clrL ws off P)) → Hid (Kp s s W W') → Hid (∀ B, B ≤ s → Below B W W') → wpList Try.prog ops Q rest (a.put o.dst (.tuple #[])) W') : wpList Try.prog ops Q (o :: rest) a W := by
  refine wpList_plain hgd fun K hK => ?_
  have hu : Try.prog.underlying 22 = some (.slice 49) := Try.underlying22
  obtain ⟨i0, hi, hz0, hz1, hz2⟩ := info_parts info_u64
  by_cases h0 : P = 0
  · subst h0
    have hrun : (Builtin.clear_ #[22] o.type #[lentS s off 0]).run Try.prog W = .ok (.tuple #[]) W := by
      simp [Builtin.clear_, lentS, run_underlying hu]
    have e : clrL ws off 0 = ws := by
      unfold clrL
      rw [List.replicate_zero, List.append_nil, Nat.add_zero, List.take_append_drop]
    rw [e] at h
    unfold Oper.wp
    simp [execOp, ho, resolve, invoke, builtin, hx, hrun, Result.andThen]
    exact hK _ _ (h W hrow ⟨Nat.le_refl _, fun _ _ _ _ => rfl⟩ fun B _ => Below.refl B W)
  · have hst := run_storeCells_at Try.prog s off 49 (List.replicate P (.int .u64 0)) 0 _ W hrow (by
      have e := valsK_length .u64 (zn ws)
      rw [zn_length] at e
      rw [List.length_replicate, List.size_toArray]; omega) (fun v hv => by rw [(List.mem_replicate.1 hv).2]; rfl)
    rw [List.length_replicate, Nat.add_zero, ← clrL_vals] at hst
    have hrun : (Builtin.clear_ #[22] o.type #[lentS s off P]).run Try.prog W = .ok (.tuple #[]) (W.setRow s (valsK .u64 (zn (clrL ws off P))).toArray) := by
      have e : lentS s off P = .slice (some ⟨s, off, none⟩) P P := by unfold lentS; rw [if_neg h0]
      rw [e]
      simp [Builtin.clear_, run_underlying hu, zeroValue, typeInfo, hi, hz0, Value.cells, zeros_word, hst, h0]
    unfold Oper.wp
    simp [execOp, ho, resolve, invoke, builtin, hx, hrun, Result.andThen]
    refine hK _ _ (h _ (setRow_heap W s _ _ _ _ hrow) ⟨by simp [World.setRow], fun j _ h1 _ => setRow_other W s j _ (by omega)⟩ fun B hB => below_setRow (Below.refl B W) hB _)
theorem AN.lent {b g s n u h : Nat} {ws : List Nat} {W : World} (A : AN b W g s n u h ws) (u' : Nat) (hu : u' ≤ n) : AN b (W.setCell ⟨g, 2, none⟩ (.int .i64 (u' : Int))) g s n u' h ws :=
  ⟨A.box.set 2 _, A.row.put A.ne.symm _, A.len, A.ne, A.bg, A.bs, hu, A.hn, A.top⟩
theorem AN.most {b g s n u h : Nat} {ws : List Nat} {W : World} (A : AN b W g s n u h ws) (h' : Nat) (hh : h' ≤ n) : AN b (W.setCell ⟨g, 3, none⟩ (.int .i64 (h' : Int))) g s n u h' ws :=
  ⟨A.box.set 3 _, A.row.put A.ne.symm _, A.len, A.ne, A.bg, A.bs, A.un, hh, A.top⟩
theorem Kp.of {g s : Nat} {W W' : World} (h : Below W.heap.size W W') : Kp g s W W' := ⟨h.size, fun j hj _ _ => h.block j hj⟩
theorem Kp.both {g s : Nat} {W W' W'' : World} (h : Kp g s W W') (k : Kp g s W' W'') : Kp g s W W'' :=
  ⟨Nat.le_trans h.size k.size, fun j hj h1 h2 => (k.keep j (Nat.lt_of_lt_of_le hj h.size) h1 h2).trans (h.keep j hj h1 h2)⟩
theorem Kp.cell {g s i : Nat} {W : World} (u : Value) : Kp g s W (W.setCell ⟨g, i, none⟩ u) := ⟨by rw [World.size_setCell]; exact Nat.le_refl _, fun j _ h1 _ => Below.heap_setCell W ⟨g, i, none⟩ u j h1⟩
theorem Kp.fresh {g s q i : Nat} {W W' : World} (h : Kp g s W W') (hq : W.heap.size ≤ q) (u : Value) : Kp g s W (W'.setCell ⟨q, i, none⟩ u) :=
  ⟨by rw [World.size_setCell]; exact h.size, fun j hj h1 h2 => (Below.heap_setCell W' ⟨q, i, none⟩ u j (by show j ≠ q; omega)).trans (h.keep j hj h1 h2)⟩
theorem AN.put {b g s n u h : Nat} {ws : List Nat} {W : World} (A : AN b W g s n u h ws) {p : Addr} (h1 : g ≠ p.block) (h2 : s ≠ p.block) (v : Value) : AN b (W.setCell p v) g s n u h ws :=
  ⟨A.box.put h1 _, A.row.put h2 _, A.len, A.ne, A.bg, A.bs, A.un, A.hn, A.top⟩
theorem AN.clr {b g s n u h : Nat} {ws ws' : List Nat} {W W' : World} (A : AN b W g s n u h ws) (hr : Wr W' s ws') (hk : Kp s s W W') (hl : ws'.length = ws.length) : AN b W' g s n u h ws' :=
  ⟨hk.ms A.box A.ne A.ne, hr, hl.trans A.len, A.ne, A.bg, A.bs, A.un, A.hn, A.top⟩
theorem Kp.drew {g s : Nat} {W W' : World} (h : Kp g s W W') : Kp g s W W'.drew := ⟨h.size, h.keep⟩
theorem Kp.wide {g s : Nat} {W W' : World} (h : Kp s s W W') : Kp g s W W' := ⟨h.size, fun j hj _ h2 => h.keep j hj h2 h2⟩
section
variable {b g s n u h : Nat} {ws : List Nat} {W : World}
set_option maxHeartbeats 8000000 in
theorem ar_take (A : AN b W g s n u h ws) {r c P : Nat} (hr : r ≤ 64) (hc : c ≤ 64) (hP : r * c = P) (ho : u + P ≤ n) :
    Calls Try.prog 19 #[.pointer (some ⟨g, 0, none⟩), .int .i64 (r : Int), .int .i64 (c : Int)] W fun e W' => e = .returned (.tuple #[.agg #[.int .i64 (r : Int), .int .i64 (c : Int), .int .i64 (c : Int), .int .i64 (u : Int)], .int .i64 0]) ∧ AN b W' g s n (u + P) (max h (u + P)) (clrL ws u P) ∧ Kp g s W W' ∧ Below b W W' := by
  obtain ⟨B, G⟩ := mbox W #[.int .i64 0, .int .i64 0, .int .i64 0, .int .i64 0] 38 _ rfl
  have A1 := A.behind B
  have hm := ar_made A1.cell0
  have hl := ar_left A1
  have hs1 := fun w => ar_side (n := (r : Int)) (w := w)
  have hs2 := fun w => ar_side (n := (c : Int)) (w := w)
  rw [decide_eq_true (show (0 : Int) ≤ r ∧ (r : Int) ≤ 64 by omega)] at hs1
  rw [decide_eq_true (show (0 : Int) ≤ c ∧ (c : Int) ≤ 64 by omega)] at hs2
  have hP4 : P ≤ 4096 := by rw [← hP]; exact Nat.le_trans (Nat.mul_le_mul hr hc) (by decide)
  have e1 : IntKind.i64.wrap ((r : Int) * (c : Int)) = (P : Int) := by rw [← Int.natCast_mul, hP]; exact IntWalk.i64_in _ (by omega)
  have hu := A.un
  have ht := A.top
  have hh := A.hn
  have hgW : Hid (g < W.heap.size ∧ s < W.heap.size) := Lib.hid ⟨(Array.getElem?_eq_some_iff.1 A.box).1, A.row.lt⟩
  clear A
  have q1 : decide ((n : Int) - u < (P : Int)) = false := decide_eq_false (by omega)
  have hLN := Lib.hid (fun W (A : AN b W g s n (u + P) (max h (u + P)) ws) => ar_lend_yes A hr hc hP (Nat.le_refl _))
  have HP := Lib.hid hP
  obtain ⟨M, hM⟩ : ∃ M, M = max h (u + P) := ⟨_, rfl⟩
  have hMn : M ≤ n := by omega
  have hmx : ∀ (w : World) (ts : Array TypeId) (t : TypeId), (Builtin.max_ ts t #[.int .i64 (h : Int), .int .i64 ((u : Int) + P)]).run Try.prog w = .ok (.int .i64 (M : Int)) w := fun w ts t => by
    rw [max_twoM, show max (h : Int) ((u : Int) + P) = M by omega]
  rw [← hM] at hLN ⊢
  have HMn := Lib.hid hMn
  clear hP hM hMn
  go_enter Try.func19, Try.ntmps19
  go_wp2_with fail
  generalize W.alloc (.cells #[.int .i64 0, .int .i64 0, .int .i64 0, .int .i64 0] 38) = W0 at *
  refine hm.mono ?_
  rintro e w1 ⟨rfl, rfl⟩
  go_wp2_with fail
  refine (hs1 _).mono ?_
  rintro e w1 ⟨rfl, rfl⟩
  go_wp2_with fail
  refine (hs2 _).mono ?_
  rintro e w1 ⟨rfl, rfl⟩
  go_wp2_with fail
  refine hl.mono ?_
  rintro e w2 ⟨rfl, b2⟩
  have A2 := A1.behind b2
  have G2 := G.behind b2
  obtain ⟨B3, G3⟩ := mbox w2 #[.int .i64 (r : Int), .int .i64 (c : Int), .int .i64 (c : Int), .int .i64 (u : Int)] 38 _ rfl
  have A3 := A2.behind B3
  have c2 := A2.cell2
  have d2 := A3.cell2
  have f2 := A3.box.f 2
  have A4 := A3.lent (u + P) ho
  have e5 := A4.cell2
  have e3 := A4.cell3
  have f3 := A4.box.f 3
  rw [Int.natCast_add] at A4 e5 e3 f3
  clear hm hs1 hs2 hl
  have hg6 : g < W.heap.size := hgW.out.1
  have hs6 : s < W.heap.size := hgW.out.2
  have g68 : W.heap.size ≠ w2.heap.size := fun e => by have := (Array.getElem?_eq_some_iff.1 G2).1; omega
  have gg8 : g ≠ w2.heap.size := fun e => by have := (Array.getElem?_eq_some_iff.1 A2.box).1; omega
  have gs8 : s ≠ w2.heap.size := fun e => by have := A2.row.lt; omega
  have H6 : Ms _ W.heap.size _ _ := (G2.behind B3).put (p := ⟨g, 2, none⟩) (Nat.ne_of_gt hg6) (.int .i64 ((u : Int) + P))
  have H8 : Ms _ w2.heap.size _ _ := G3.put (p := ⟨g, 2, none⟩) gg8.symm (.int .i64 ((u : Int) + P))
  have K4 : Kp g s W _ := ((Kp.of (below_both (below_both B b2) B3)).both (Kp.cell (i := 2) (.int .i64 ((u : Int) + P))))
  have D4 : Below b W _ := ((below_both (below_both B b2) B3).mono (Nat.le_of_lt (Nat.lt_of_le_of_lt A1.bg hg6))).setCell (p := ⟨g, 2, none⟩) A1.bg (.int .i64 ((u : Int) + P))
  go_wp2_with fail
  clear d2 f2 c2 B3 G3 A3 A2 G2 b2 A1 B G
  generalize (w2.alloc (.cells #[.int .i64 (r : Int), .int .i64 (c : Int), .int .i64 (c : Int), .int .i64 (u : Int)] 38)).setCell ⟨g, 2, none⟩ (.int .i64 ((u : Int) + P)) = W4 at *
  generalize w2.heap.size = g8 at *
  go_region
  have A5 : AN b (W4.setCell ⟨g, 3, none⟩ (.int .i64 (M : Int))).drew g s n (u + P) M ws := (A4.most M HMn.out).drew
  have K5 : Kp g s W (W4.setCell ⟨g, 3, none⟩ (.int .i64 (M : Int))).drew := (K4.both (Kp.cell (i := 3) (.int .i64 (M : Int)))).drew
  have D5 : Below b W (W4.setCell ⟨g, 3, none⟩ (.int .i64 (M : Int))).drew := (D4.setCell (p := ⟨g, 3, none⟩) A4.bg _).drew
  have L6 : Ms (W4.setCell ⟨g, 3, none⟩ (.int .i64 (M : Int))).drew W.heap.size _ _ := H6.put (p := ⟨g, 3, none⟩) (Nat.ne_of_gt hg6) (.int .i64 (M : Int))
  have L8 : Ms (W4.setCell ⟨g, 3, none⟩ (.int .i64 (M : Int))).drew g8 _ _ := H8.put (p := ⟨g, 3, none⟩) gg8.symm (.int .i64 (M : Int))
  generalize (W4.setCell ⟨g, 3, none⟩ (.int .i64 (M : Int))).drew = W5 at *
  clear A4 e5 e3 f3 H6 H8 K4 D4 hmx
  have hLL := hLN.out _ A5
  have x0 := L8.cell (i := 0) rfl
  have x1 := L8.cell (i := 1) rfl
  have x2 := L8.cell (i := 2) rfl
  have x3 := L8.cell (i := 3) rfl
  have s5 : b ≤ W5.heap.size := Nat.le_trans A5.bg (Nat.le_of_lt (Array.getElem?_eq_some_iff.1 A5.box).1)
  have hfit : u + P ≤ ws.length := by rw [A5.len]; exact ho
  have HFT := Lib.hid hfit
  have HS6 := Lib.hid hs6
  have HG6 := Lib.hid hg6
  clear hfit ho hu ht hh hP4 hr hc q1 hs6 hg6
  go_wp2_with fail
  refine hLL.mono ?_
  rintro e w6 ⟨rfl, b6⟩
  have A6 := A5.behind b6
  have N6 := L6.behind b6
  have N8 := L8.behind b6
  have K6 := K5.both (Kp.of b6)
  have D6 : Below b W w6 := D5.trans (b6.mono s5)
  go_wp2_with (refine wpList_clear rfl (.tmp 64) rfl (s := s) (off := u) (P := P) (ws := ws) rfl A6.row HFT.out ?_; intro w7 hr7 hk7 hb7; have A7 := A6.clr hr7.out hk7.out (clrL_length HFT.out); have O6 := hk7.out.ms N6 (Nat.ne_of_gt HS6.out) (Nat.ne_of_gt HS6.out); have O8 := hk7.out.ms N8 gs8.symm gs8.symm; have K7 : Kp g s W w7 := K6.both (hk7.out.wide); have D7 : Below b W w7 := D6.trans (hb7.out b A6.bs); clear A5 K5 D5 L6 L8 hLL x0 x1 x2 x3 s5 A6 N6 N8 K6 D6 hr7 hk7 hb7; have y0 := O8.cell (i := 0) rfl; have y1 := O8.cell (i := 1) rfl; have y2 := O8.cell (i := 2) rfl; have y3 := O8.cell (i := 3) rfl; have g0 := O6.cell (i := 0) rfl; have g1 := O6.cell (i := 1) rfl; have g2 := O6.cell (i := 2) rfl; have g3 := O6.cell (i := 3) rfl; have f0 := O6.f 0; have f1 := O6.f 1; have f2 := O6.f 2; have f3 := O6.f 3)
  have hg6 := HG6.out
  have hs6 := HS6.out
  exact bodyPost_ret (v := .tuple #[.agg #[.int .i64 (r : Int), .int .i64 (c : Int), .int .i64 (c : Int), .int .i64 (u : Int)], .int .i64 0]) (by simp [results, Try.results19, go_sem, g0, g1, g2, g3]) rfl
    ⟨rfl, (((A7.put (Nat.ne_of_lt hg6) (Nat.ne_of_lt hs6) _).put (Nat.ne_of_lt hg6) (Nat.ne_of_lt hs6) _).put (Nat.ne_of_lt hg6) (Nat.ne_of_lt hs6) _).put (Nat.ne_of_lt hg6) (Nat.ne_of_lt hs6) _, (((K7.fresh (Nat.le_refl _) _).fresh (Nat.le_refl _) _).fresh (Nat.le_refl _) _).fresh (Nat.le_refl _) _, ar_put4 D7 (Nat.le_trans A7.bg (Nat.le_of_lt hg6)) _ _ _ _⟩
end
theorem AN.word {b g s n u h j : Nat} {ws : List Nat} {W : World} (A : AN b W g s n u h ws) (z : Nat) : AN b (W.setCell ⟨s, j, none⟩ (.int .u64 (z : Int))) g s n u h (ws.set j z) :=
  ⟨A.box.put A.ne _, A.row.set j z, by rw [List.length_set]; exact A.len, A.ne, A.bg, A.bs, A.un, A.hn, A.top⟩
end Go.Proofs.Ytjapilpjahhimaa

/- arena: Take's errors, Release, New of any small number. -/
namespace Go.Proofs.Ytjapilpjahhimaa
open Go.RowKit Go.Shelf
theorem ar_newM {z : Int} {n : Nat} (hz : max z 0 = (n : Int)) (hn : n ≤ 1048576) {w : World} : Calls Try.prog 18 #[.int .i64 z] w fun e W' => ∃ g s, e = .returned (.pointer (some ⟨g, 0, none⟩)) ∧ AN w.heap.size W' g s n 0 0 (List.replicate n 0) ∧ Below w.heap.size w W' := by
  have hmx : ∀ (w : World) (ts : Array TypeId) (t : TypeId), (Builtin.max_ ts t #[.int .i64 z, .int .i64 0]).run Try.prog w = .ok (.int .i64 (n : Int)) w := fun w ts t => by
    rw [max_twoM, hz]
  have hmn : ∀ (w : World) (ts : Array TypeId) (t : TypeId), (Builtin.min_ ts t #[.int .i64 (n : Int), .int .i64 1048576]).run Try.prog w = .ok (.int .i64 (n : Int)) w := fun w ts t => by
    have e : (if (1048576 : Int) < (n : Int) then (1048576 : Int) else n) = n := by rw [if_neg]; omega
    simp [Builtin.min_, Builtin.min2, e]
  have hmk := fun u => makeN_u64 n (by omega) u
  have B1 : Below w.heap.size w (w.alloc (.cells (madeCells #[.int .u64 0] n) 49)) := (Below.refl _ w).alloc (Nat.le_refl _) _
  have hrow : Wr (w.alloc (.cells (madeCells #[.int .u64 0] n) 49)) w.heap.size (List.replicate n 0) := by
    unfold Wr World.alloc
    have h := valsK_zeros .u64 n
    have e : zn (List.replicate n 0) = List.replicate n 0 := by unfold zn; rw [List.map_replicate]; rfl
    rw [e, ← h]
    simp
  obtain ⟨B2, G⟩ := mbox (w.alloc (.cells (madeCells #[.int .u64 0] n) 49)) #[.bool true, .slice (some ⟨w.heap.size, 0, none⟩) n n, .int .i64 0, .int .i64 0] 73 _ rfl
  rw [World.size_alloc] at G
  clear hz
  go_enter Try.func18, Try.ntmps18
  go_wp2
  go_ret
  refine ⟨_, w.heap.size, rfl, ⟨G, (B2.block _ hrow.lt).trans hrow, List.length_replicate, ?_, ?_, Nat.le_refl _, Nat.zero_le _, Nat.zero_le _, hn⟩, below_both B1 B2⟩
  · omega
  · omega
section
variable {b g s n u h : Nat} {ws : List Nat} {W : World}
set_option maxHeartbeats 4000000 in
theorem ar_take_shape (A : AN b W g s n u h ws) {R C : Int} (hno : ¬ ((0 ≤ R ∧ R ≤ 64) ∧ (0 ≤ C ∧ C ≤ 64))) : Calls Try.prog 19 #[.pointer (some ⟨g, 0, none⟩), .int .i64 R, .int .i64 C] W fun e W' => e = .returned (.tuple #[.agg #[.int .i64 0, .int .i64 0, .int .i64 0, .int .i64 0], .int .i64 11]) ∧ Below W.heap.size W W' := by
  obtain ⟨B, G⟩ := mbox W #[.int .i64 0, .int .i64 0, .int .i64 0, .int .i64 0] 38 _ rfl
  have hm := ar_made (A.behind B).cell0
  have hs1 := fun w => ar_side (n := R) (w := w)
  have hs2 := fun w => ar_side (n := C) (w := w)
  have g0 := G.cell (i := 0) rfl
  have g1 := G.cell (i := 1) rfl
  have g2 := G.cell (i := 2) rfl
  have g3 := G.cell (i := 3) rfl
  have f0 := G.f 0
  have f1 := G.f 1
  have f2 := G.f 2
  have f3 := G.f 3
  clear A
  by_cases k1 : 0 ≤ R ∧ R ≤ 64
  · have k2 : ¬ (0 ≤ C ∧ C ≤ 64) := fun h => hno ⟨k1, h⟩
    rw [decide_eq_true k1] at hs1
    rw [decide_eq_false k2] at hs2
    clear hno k1 k2
    go_enter Try.func19, Try.ntmps19
    go_wp2_with fail
    generalize W.alloc (.cells #[.int .i64 0, .int .i64 0, .int .i64 0, .int .i64 0] 38) = W0 at *
    refine hm.mono ?_
    rintro e w1 ⟨rfl, rfl⟩
    go_wp2_with fail
    refine (hs1 _).mono ?_
    rintro e w1 ⟨rfl, rfl⟩
    go_wp2_with fail
    refine (hs2 _).mono ?_
    rintro e w1 ⟨rfl, rfl⟩
    go_wp2
    exact bodyPost_ret (v := .tuple #[.agg #[.int .i64 0, .int .i64 0, .int .i64 0, .int .i64 0], .int .i64 11]) (by simp [results, Try.results19, go_sem, g0, g1, g2, g3]) rfl
      ⟨rfl, ar_put4 B (Nat.le_refl _) _ _ _ _⟩
  · rw [decide_eq_false k1] at hs1
    clear hno k1
    go_enter Try.func19, Try.ntmps19
    go_wp2_with fail
    generalize W.alloc (.cells #[.int .i64 0, .int .i64 0, .int .i64 0, .int .i64 0] 38) = W0 at *
    refine hm.mono ?_
    rintro e w1 ⟨rfl, rfl⟩
    go_wp2_with fail
    refine (hs1 _).mono ?_
    rintro e w1 ⟨rfl, rfl⟩
    go_wp2
    exact bodyPost_ret (v := .tuple #[.agg #[.int .i64 0, .int .i64 0, .int .i64 0, .int .i64 0], .int .i64 11]) (by simp [results, Try.results19, go_sem, g0, g1, g2, g3]) rfl
      ⟨rfl, ar_put4 B (Nat.le_refl _) _ _ _ _⟩
set_option maxHeartbeats 4000000 in
theorem ar_take_full (A : AN b W g s n u h ws) {r c P : Nat} (hr : r ≤ 64) (hc : c ≤ 64) (hP : r * c = P) (ho : ¬ u + P ≤ n) : Calls Try.prog 19 #[.pointer (some ⟨g, 0, none⟩), .int .i64 (r : Int), .int .i64 (c : Int)] W fun e W' => e = .returned (.tuple #[.agg #[.int .i64 0, .int .i64 0, .int .i64 0, .int .i64 0], .int .i64 14]) ∧ Below W.heap.size W W' := by
  obtain ⟨B, G⟩ := mbox W #[.int .i64 0, .int .i64 0, .int .i64 0, .int .i64 0] 38 _ rfl
  have A1 := A.behind B
  have hm := ar_made A1.cell0
  have hl := ar_left A1
  have hs1 := fun w => ar_side (n := (r : Int)) (w := w)
  have hs2 := fun w => ar_side (n := (c : Int)) (w := w)
  rw [decide_eq_true (show (0 : Int) ≤ r ∧ (r : Int) ≤ 64 by omega)] at hs1
  rw [decide_eq_true (show (0 : Int) ≤ c ∧ (c : Int) ≤ 64 by omega)] at hs2
  have hP4 : P ≤ 4096 := by rw [← hP]; exact Nat.le_trans (Nat.mul_le_mul hr hc) (by decide)
  have e1 : IntKind.i64.wrap ((r : Int) * (c : Int)) = (P : Int) := by rw [← Int.natCast_mul, hP]; exact IntWalk.i64_in _ (by omega)
  have hu := A.un
  have ht := A.top
  have q1 : decide ((n : Int) - u < (P : Int)) = true := decide_eq_true (by omega)
  clear A A1 hP
  go_enter Try.func19, Try.ntmps19
  go_wp2_with fail
  generalize W.alloc (.cells #[.int .i64 0, .int .i64 0, .int .i64 0, .int .i64 0] 38) = W0 at *
  refine hm.mono ?_
  rintro e w1 ⟨rfl, rfl⟩
  go_wp2_with fail
  refine (hs1 _).mono ?_
  rintro e w1 ⟨rfl, rfl⟩
  go_wp2_with fail
  refine (hs2 _).mono ?_
  rintro e w1 ⟨rfl, rfl⟩
  go_wp2_with fail
  refine hl.mono ?_
  rintro e w2 ⟨rfl, b2⟩
  replace G := G.behind b2
  replace B := below_both B b2
  have g0 := G.cell (i := 0) rfl
  have g1 := G.cell (i := 1) rfl
  have g2 := G.cell (i := 2) rfl
  have g3 := G.cell (i := 3) rfl
  have f0 := G.f 0
  have f1 := G.f 1
  have f2 := G.f 2
  have f3 := G.f 3
  go_wp2
  exact bodyPost_ret (v := .tuple #[.agg #[.int .i64 0, .int .i64 0, .int .i64 0, .int .i64 0], .int .i64 14]) (by simp [results, Try.results19, go_sem, g0, g1, g2, g3]) rfl
    ⟨rfl, ar_put4 B (Nat.le_refl _) _ _ _ _⟩
theorem ar_release_no (A : AN b W g s n u h ws) {M : Int} (hno : ¬ (0 ≤ M ∧ M ≤ u)) : Calls Try.prog 53 #[.pointer (some ⟨g, 0, none⟩), .int .i64 M] W fun e W' => e = .returned (.int .i64 4) ∧ Below W.heap.size W W' := by
  have hm := ar_made A.cell0
  have c2 := A.cell2
  clear A
  by_cases k1 : 0 ≤ M
  · have k2 : ¬ M ≤ u := fun h => hno ⟨k1, h⟩
    clear hno
    go_enter Try.func53, Try.ntmps53
    go_wp2_with fail
    refine hm.mono ?_
    rintro e w1 ⟨rfl, rfl⟩
    go_wp2
    go_ret
    exact ⟨rfl, Below.refl _ _⟩
  · clear hno
    go_enter Try.func53, Try.ntmps53
    go_wp2_with fail
    refine hm.mono ?_
    rintro e w1 ⟨rfl, rfl⟩
    go_wp2
    go_ret
    exact ⟨rfl, Below.refl _ _⟩
theorem ar_release (A : AN b W g s n u h ws) {m : Nat} (hm' : m ≤ u) : Calls Try.prog 53 #[.pointer (some ⟨g, 0, none⟩), .int .i64 (m : Int)] W fun e W' => e = .returned (.int .i64 0) ∧ AN b W' g s n m h ws ∧ Kp g s W W' ∧ Below b W W' := by
  have hm := ar_made A.cell0
  have c2 := A.cell2
  have f2 := A.box.f 2
  have A2 := A.lent m (Nat.le_trans hm' A.un)
  have D : Below b W (W.setCell ⟨g, 2, none⟩ (.int .i64 (m : Int))) := (Below.refl _ _).setCell (p := ⟨g, 2, none⟩) A.bg _
  clear A
  go_enter Try.func53, Try.ntmps53
  go_wp2_with fail
  refine hm.mono ?_
  rintro e w1 ⟨rfl, rfl⟩
  go_wp2
  go_ret
  exact ⟨rfl, A2, Kp.cell (i := 2) _, D⟩
end
end Go.Proofs.Ytjapilpjahhimaa
