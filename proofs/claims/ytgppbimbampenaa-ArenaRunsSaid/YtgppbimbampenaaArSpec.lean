/- arena: isMade, isSide, New, Mark, High, Left, Words: what the calls keep. -/
import Derived.Test.YtgppbimbampenaaOz
import Derived.Test.YtgppbimbampenaaNeMax
import Derived.Laws.CopyOwn
import Derived.BigRegion
namespace Go.Proofs.Ytgppbimbampenaa
open Go.RowKit Go.Shelf
/-- block g is this list of words -/
def Wr (W : World) (g : Nat) (L : List Nat) : Prop := W.heap[g]? = some (.cells (valsK .u64 (zn L)).toArray 57 (0, 0))
section
variable {W W' : World} {g : Nat} {L : List Nat}
theorem Wr.cell (h : Wr W g L) {j : Nat} (hj : j < L.length) : W.cell? ⟨g, j, none⟩ = some (.int .u64 ((lim L j : Nat) : Int)) := by
  rw [cell_of_row W g j _ _ (0, 0) h, List.getElem?_toArray, valsK_get (by rw [zn_length]; exact hj)]
  congr 2
  unfold zat zn lim
  rw [List.getElem?_map]
  cases L[j]? <;> rfl
theorem Wr.f (h : Wr W g L) (j : Nat) : W.frozen? ⟨g, j, none⟩ = false := by simp [World.frozen?, show W.heap[g]? = _ from h]
theorem Wr.drew (h : Wr W g L) : Wr W.drew g L := h
theorem Wr.set (h : Wr W g L) (j z : Nat) : Wr (W.setCell ⟨g, j, none⟩ (.int .u64 (z : Int))) g (L.set j z) := by
  unfold Wr at h ⊢
  rw [zn_set]
  simp [World.setCell, Array.getElem?_modify, h, valsK, List.map_set]
theorem Wr.put (h : Wr W g L) {p : Addr} (hp : g ≠ p.block) (u : Value) : Wr (W.setCell p u) g L := (Below.heap_setCell _ _ _ _ hp).trans h
theorem Wr.lt (h : Wr W g L) : g < W.heap.size := (Array.getElem?_eq_some_iff.1 h).1
end
/-- no block but g and s was written to -/
structure Kp (g s : Nat) (W W' : World) : Prop where
  size : W.heap.size ≤ W'.heap.size
  keep : ∀ j, j < W.heap.size → j ≠ g → j ≠ s → W'.heap[j]? = W.heap[j]?
theorem Kp.ms {g s : Nat} {W W' : World} (k : Kp g s W W') {j : Nat} {cs : Array Value} {t : TypeId} (h : Ms W j cs t) (h1 : j ≠ g) (h2 : j ≠ s) : Ms W' j cs t :=
  (k.keep j (Array.getElem?_eq_some_iff.1 h).1 h1 h2).trans h
/-- an arena that the call itself has made, behind block number b -/
structure AN (b : Nat) (W : World) (g s n u h : Nat) (ws : List Nat) : Prop where
  box : Ms W g #[.bool true, .slice (some ⟨s, 0, none⟩) n n, .int .i64 (u : Int), .int .i64 (h : Int)] 64
  row : Wr W s ws
  len : ws.length = n
  ne : g ≠ s
  bg : b ≤ g
  bs : b ≤ s
  un : u ≤ n
  hn : h ≤ n
  top : n ≤ 1048576
section
variable {b g s n u h : Nat} {ws : List Nat} {W W' : World}
theorem AN.behind (A : AN b W g s n u h ws) (hb : Below W.heap.size W W') : AN b W' g s n u h ws :=
  ⟨A.box.behind hb, (hb.block s A.row.lt).trans A.row, A.len, A.ne, A.bg, A.bs, A.un, A.hn, A.top⟩
theorem AN.drew (A : AN b W g s n u h ws) : AN b W.drew g s n u h ws := ⟨A.box, A.row, A.len, A.ne, A.bg, A.bs, A.un, A.hn, A.top⟩
theorem AN.cell0 (A : AN b W g s n u h ws) : W.cell? ⟨g, 0, none⟩ = some (.bool true) := A.box.cell (i := 0) rfl
theorem AN.cell1 (A : AN b W g s n u h ws) : W.cell? ⟨g, 1, none⟩ = some (.slice (some ⟨s, 0, none⟩) n n) := A.box.cell (i := 1) rfl
theorem AN.cell2 (A : AN b W g s n u h ws) : W.cell? ⟨g, 2, none⟩ = some (.int .i64 (u : Int)) := A.box.cell (i := 2) rfl
theorem AN.cell3 (A : AN b W g s n u h ws) : W.cell? ⟨g, 3, none⟩ = some (.int .i64 (h : Int)) := A.box.cell (i := 3) rfl
theorem AN.arg (A : AN b W g s n u h ws) : Arg W (.slice (some ⟨s, 0, none⟩) n n) ws := by
  refine ⟨s, A.row.lt, .inr ⟨0, n, by rw [A.len], by rw [A.len]; exact Nat.le_refl _, fun j hj => ?_⟩⟩
  rw [Nat.zero_add, A.row.cell (by simpa using hj)]
end
theorem ar_made {g : Nat} {c : Bool} {W : World} (h : W.cell? ⟨g, 0, none⟩ = some (.bool c)) : Calls Try.prog 68 #[.pointer (some ⟨g, 0, none⟩)] W fun e W' => e = .returned (.bool c) ∧ W = W' := by
  go_enter Try.func68, Try.ntmps68
  go_wp2
  go_ret
  exact ⟨rfl, rfl⟩
theorem ar_nil {W : World} : Calls Try.prog 68 #[.pointer none] W fun e W' => e = .returned (.bool false) ∧ W = W' := by
  go_enter Try.func68, Try.ntmps68
  go_wp2
  go_ret
  exact ⟨rfl, rfl⟩
theorem ar_side {n : Int} {w : World} : Calls Try.prog 69 #[.int .i64 n] w fun e W' => e = .returned (.bool (decide (0 ≤ n ∧ n ≤ 64))) ∧ w = W' := by
  by_cases k1 : 0 ≤ n
  · by_cases k2 : n ≤ 64
    · rw [decide_eq_true (show 0 ≤ n ∧ n ≤ 64 from ⟨k1, k2⟩)]
      go_enter Try.func69, Try.ntmps69
      go_wp2
      go_ret
      exact ⟨rfl, rfl⟩
    · rw [decide_eq_false (fun h : 0 ≤ n ∧ n ≤ 64 => k2 h.2)]
      go_enter Try.func69, Try.ntmps69
      go_wp2
      go_ret
      exact ⟨rfl, rfl⟩
  · rw [decide_eq_false (fun h : 0 ≤ n ∧ n ≤ 64 => k1 h.1)]
    go_enter Try.func69, Try.ntmps69
    go_wp2
    go_ret
    exact ⟨rfl, rfl⟩
section
variable {b g s n u h : Nat} {ws : List Nat} {W : World}
theorem ar_mark (A : AN b W g s n u h ws) : Calls Try.prog 38 #[.pointer (some ⟨g, 0, none⟩)] W fun e W' => e = .returned (.int .i64 (u : Int)) ∧ W = W' := by
  have c2 := A.cell2
  have hm := ar_made A.cell0
  go_enter Try.func38, Try.ntmps38
  go_wp2_with fail
  refine hm.mono ?_
  rintro e w1 ⟨rfl, rfl⟩
  go_wp2
  go_ret
  exact ⟨rfl, rfl⟩
theorem ar_high (A : AN b W g s n u h ws) : Calls Try.prog 39 #[.pointer (some ⟨g, 0, none⟩)] W fun e W' => e = .returned (.int .i64 (h : Int)) ∧ W = W' := by
  have c2 := A.cell3
  have hm := ar_made A.cell0
  go_enter Try.func39, Try.ntmps39
  go_wp2_with fail
  refine hm.mono ?_
  rintro e w1 ⟨rfl, rfl⟩
  go_wp2
  go_ret
  exact ⟨rfl, rfl⟩
theorem ar_left (A : AN b W g s n u h ws) : Calls Try.prog 40 #[.pointer (some ⟨g, 0, none⟩)] W fun e W' => e = .returned (.int .i64 ((n : Int) - u)) ∧ Below W.heap.size W W' := by
  have c1 := A.cell1
  have c2 := A.cell2
  have hm := ar_made A.cell0
  have hu := A.un
  have ht := A.top
  clear A
  go_enter Try.func40, Try.ntmps40
  go_wp2_with fail
  refine hm.mono ?_
  rintro e w1 ⟨rfl, rfl⟩
  go_wp2_with fail
  go_region
  go_wp2
  go_ret
  refine ⟨rfl, (Below.refl _ _).drew⟩
theorem ar_words (A : AN b W g s n u h ws) : Calls Try.prog 37 #[.pointer (some ⟨g, 0, none⟩)] W fun e W' => ∃ v, e = .returned v ∧ OwnK .u64 57 W.heap.size W' v (zn ws) ∧ Below W.heap.size W W' := by
  have c1 := A.cell1
  have hm := ar_made A.cell0
  have hc := clone_own _ ws (by have := A.len; have := A.top; omega) W A.arg
  clear A
  go_enter Try.func37, Try.ntmps37
  go_wp2_with fail
  refine hm.mono ?_
  rintro e w1 ⟨rfl, rfl⟩
  go_wp2_with fail
  refine hc.mono ?_
  rintro e w2 ⟨v, rfl, ho, hb⟩
  go_wp2
  go_ret
  exact ⟨v, rfl, ho, hb⟩
end
theorem ar_new {z : Int} {n : Nat} (hz : z = (n : Int)) (hn : n ≤ 1048576) {w : World} : Calls Try.prog 33 #[.int .i64 z] w fun e W' => ∃ g s, e = .returned (.pointer (some ⟨g, 0, none⟩)) ∧ AN w.heap.size W' g s n 0 0 (List.replicate n 0) ∧ Below w.heap.size w W' := by
  subst hz
  have hmx : ∀ (w : World) (ts : Array TypeId) (t : TypeId), (Builtin.max_ ts t #[.int .i64 (n : Int), .int .i64 0]).run Try.prog w = .ok (.int .i64 (n : Int)) w := fun w ts t => by
    rw [max_twoM, show max (n : Int) 0 = n by omega]
  have hmn : ∀ (w : World) (ts : Array TypeId) (t : TypeId), (Builtin.min_ ts t #[.int .i64 (n : Int), .int .i64 1048576]).run Try.prog w = .ok (.int .i64 (n : Int)) w := fun w ts t => by
    have e : (if (1048576 : Int) < (n : Int) then (1048576 : Int) else n) = n := by rw [if_neg]; omega
    simp [Builtin.min_, Builtin.min2, e]
  have hmk := fun u => makeN_u64 n (by omega) u
  have B1 : Below w.heap.size w (w.alloc (.cells (madeCells #[.int .u64 0] n) 57)) := (Below.refl _ w).alloc (Nat.le_refl _) _
  have hrow : Wr (w.alloc (.cells (madeCells #[.int .u64 0] n) 57)) w.heap.size (List.replicate n 0) := by
    unfold Wr World.alloc
    have h := valsK_zeros .u64 n
    have e : zn (List.replicate n 0) = List.replicate n 0 := by unfold zn; rw [List.map_replicate]; rfl
    rw [e, ← h]
    simp
  obtain ⟨B2, G⟩ := mbox (w.alloc (.cells (madeCells #[.int .u64 0] n) 57)) #[.bool true, .slice (some ⟨w.heap.size, 0, none⟩) n n, .int .i64 0, .int .i64 0] 64 _ rfl
  rw [World.size_alloc] at G
  go_enter Try.func33, Try.ntmps33
  go_wp2
  go_ret
  refine ⟨_, w.heap.size, rfl, ⟨G, (B2.block _ hrow.lt).trans hrow, List.length_replicate, ?_, ?_, Nat.le_refl _, Nat.zero_le _, Nat.zero_le _, hn⟩, below_both B1 B2⟩
  · omega
  · omega
theorem ar_put4 {b : Nat} {W W' : World} (h : Below b W W') {g : Nat} (hg : b ≤ g) (x0 x1 x2 x3 : Value) : Below b W ((((W'.setCell ⟨g, 0, none⟩ x0).setCell ⟨g, 1, none⟩ x1).setCell ⟨g, 2, none⟩ x2).setCell ⟨g, 3, none⟩ x3) :=
  (((h.setCell hg _).setCell hg _).setCell hg _).setCell hg _
section
variable {p : Value} {W : World}
theorem un_mark (hm : Calls Try.prog 68 #[p] W fun e W' => e = .returned (.bool false) ∧ W = W') : Calls Try.prog 38 #[p] W fun e W' => e = .returned (.int .i64 0) ∧ W = W' := by
  go_enter Try.func38, Try.ntmps38
  go_wp2_with fail
  refine hm.mono ?_
  rintro e w1 ⟨rfl, rfl⟩
  go_wp2
  go_ret
  exact ⟨rfl, rfl⟩
theorem un_high (hm : Calls Try.prog 68 #[p] W fun e W' => e = .returned (.bool false) ∧ W = W') : Calls Try.prog 39 #[p] W fun e W' => e = .returned (.int .i64 0) ∧ W = W' := by
  go_enter Try.func39, Try.ntmps39
  go_wp2_with fail
  refine hm.mono ?_
  rintro e w1 ⟨rfl, rfl⟩
  go_wp2
  go_ret
  exact ⟨rfl, rfl⟩
theorem un_left (hm : Calls Try.prog 68 #[p] W fun e W' => e = .returned (.bool false) ∧ W = W') : Calls Try.prog 40 #[p] W fun e W' => e = .returned (.int .i64 0) ∧ W = W' := by
  go_enter Try.func40, Try.ntmps40
  go_wp2_with fail
  refine hm.mono ?_
  rintro e w1 ⟨rfl, rfl⟩
  go_wp2
  go_ret
  exact ⟨rfl, rfl⟩
theorem un_words (hm : Calls Try.prog 68 #[p] W fun e W' => e = .returned (.bool false) ∧ W = W') : Calls Try.prog 37 #[p] W fun e W' => e = .returned (.slice none 0 0) ∧ W = W' := by
  go_enter Try.func37, Try.ntmps37
  go_wp2_with fail
  refine hm.mono ?_
  rintro e w1 ⟨rfl, rfl⟩
  go_wp2
  go_ret
  exact ⟨rfl, rfl⟩
theorem un_release {n : Int} (hm : Calls Try.prog 68 #[p] W fun e W' => e = .returned (.bool false) ∧ W = W') : Calls Try.prog 36 #[p, .int .i64 n] W fun e W' => e = .returned (.int .i64 9) ∧ W = W' := by
  go_enter Try.func36, Try.ntmps36
  go_wp2_with fail
  refine hm.mono ?_
  rintro e w1 ⟨rfl, rfl⟩
  go_wp2
  go_ret
  exact ⟨rfl, rfl⟩
theorem un_take {R C : Int} (hm : ∀ W', Below W.heap.size W W' → Calls Try.prog 68 #[p] W' fun e W'' => e = .returned (.bool false) ∧ W' = W'') : Calls Try.prog 34 #[p, .int .i64 R, .int .i64 C] W fun e W' => e = .returned (.tuple #[.agg #[.int .i64 0, .int .i64 0, .int .i64 0, .int .i64 0], .int .i64 9]) ∧ Below W.heap.size W W' := by
  obtain ⟨B, G⟩ := mbox W #[.int .i64 0, .int .i64 0, .int .i64 0, .int .i64 0] 23 _ rfl
  have hm := hm _ B
  have g0 := G.cell (i := 0) rfl
  have g1 := G.cell (i := 1) rfl
  have g2 := G.cell (i := 2) rfl
  have g3 := G.cell (i := 3) rfl
  have f0 := G.f 0
  have f1 := G.f 1
  have f2 := G.f 2
  have f3 := G.f 3
  go_enter Try.func34, Try.ntmps34
  go_wp2_with fail
  generalize W.alloc (.cells #[.int .i64 0, .int .i64 0, .int .i64 0, .int .i64 0] 23) = W0 at *
  refine hm.mono ?_
  rintro e w1 ⟨rfl, rfl⟩
  go_wp2
  exact bodyPost_ret (v := .tuple #[.agg #[.int .i64 0, .int .i64 0, .int .i64 0, .int .i64 0], .int .i64 9]) (by simp [results, Try.results34, go_sem, g0, g1, g2, g3]) rfl
    ⟨rfl, ar_put4 B (Nat.le_refl _) _ _ _ _⟩
theorem un_lend {R C S O : Int} (hm : ∀ W', Below W.heap.size W W' → Calls Try.prog 68 #[p] W' fun e W'' => e = .returned (.bool false) ∧ W' = W'') : Calls Try.prog 35 #[p, .agg #[.int .i64 R, .int .i64 C, .int .i64 S, .int .i64 O]] W fun e W' => e = .returned (.slice none 0 0) ∧ Below W.heap.size W W' := by
  have B : Below W.heap.size W (W.alloc (.cells #[.int .i64 R, .int .i64 C, .int .i64 S, .int .i64 O] 23)) := (Below.refl _ W).alloc (Nat.le_refl _) _
  go_enter Try.func35, Try.ntmps35
  go_wp2_with fail
  refine (hm _ B).mono ?_
  rintro e w1 ⟨rfl, rfl⟩
  go_wp2
  go_ret
  exact ⟨rfl, B⟩
end
end Go.Proofs.Ytgppbimbampenaa
