/- whole's calls: a natural and its sign. -/
import Derived.Test.YtfbnpdlkbabmfaaDoorRefCut
import Derived.Deep.RegionHeld3
import Derived.Deep.DrawnRows
namespace Go.Proofs.YtfbnpdlkbabmfaaDoor
open Go.RowKit Go.Shelf
attribute [local go_sem ↓] Go.wp_at_zero Go.wp_at_succ

/-- the whole number of a sign and a natural -/
def wn (s : Bool) (M : Nat) : Int := if s then -(M : Int) else M
theorem wn_abs (s : Bool) (M : Nat) : (wn s M).natAbs = M := by cases s <;> simp [wn]
theorem digs_len_pos (M : Nat) : decide (0 < (digs 18446744073709551616 M).length) = decide (M ≠ 0) := by
  by_cases h : M = 0
  · subst h; rw [digs_zero]; rfl
  · rw [digs_pos (by decide) h]; simp [h]
theorem wn_neg (s : Bool) (M : Nat) : decide (wn s M < 0) = (s && decide (M ≠ 0)) := by
  rw [Bool.eq_iff_iff]; cases s <;> simp [wn]; omega
/-- v is told as the whole number z, in at most k words -/
def Wh (w : World) (v : Value) (z : Int) (k : Nat) : Prop := ∃ s u M, v = .agg #[.bool s, u] ∧ Num w u M k ∧ z = wn s M
/-- v is the whole number z as it is told, its words new -/
def WNew (n : Nat) (w : World) (v : Value) (z : Int) : Prop := ∃ u, v = .agg #[.bool (decide (z < 0)), u] ∧ New n w u (digs 18446744073709551616 z.natAbs)
theorem Wh.behind {w w' : World} {v : Value} {z : Int} {k : Nat} (h : Wh w v z k) (hb : Below w.heap.size w w') : Wh w' v z k := by
  obtain ⟨s, u, M, h1, h2, h3⟩ := h
  exact ⟨s, u, M, h1, h2.behind hb, h3⟩
theorem WNew.behind {n : Nat} {w w' : World} {v : Value} {z : Int} (h : WNew n w v z) (hb : Below w.heap.size w w') : WNew n w' v z := by
  obtain ⟨u, h1, h2⟩ := h
  exact ⟨u, h1, h2.behind hb⟩
theorem WNew.wh {n k : Nat} {w : World} {v : Value} {z : Int} (h : WNew n w v z) (hz : z.natAbs < 18446744073709551616 ^ k) : Wh w v z k := by
  obtain ⟨u, h1, h2⟩ := h
  refine ⟨_, u, _, h1, h2.num hz, ?_⟩
  unfold wn
  by_cases h : z < 0 <;> simp [h] <;> omega
theorem Wh.lt {w : World} {v : Value} {z : Int} {k : Nat} (h : Wh w v z k) : z.natAbs < 18446744073709551616 ^ k := by
  obtain ⟨s, u, M, _, h2, rfl⟩ := h
  rw [wn_abs]; exact h2.lt

set_option maxRecDepth 100000 in
theorem told_any (s : Bool) (a : Option Addr) (m cap : Nat) (w : World) :
    Calls Tryd.prog 34 #[.bool s, .slice a m cap] w fun e W' => e = .returned (.agg #[.bool (s && decide (0 < m)), .slice a m cap]) ∧ Below w.heap.size w W' := by
  cases s
  · go_enter Tryd.func34, Tryd.ntmps34
    go_wp2
    exact bodyPost_ret (v := .agg #[.bool false, .slice a m cap]) (by simp [results, Tryd.results34, go_sem]) rfl ⟨rfl, (Below.refl _ _).alloc (Nat.le_refl _) _⟩
  · go_enter Tryd.func34, Tryd.ntmps34
    go_wp2
    exact bodyPost_ret (v := .agg #[.bool (decide (0 < m)), .slice a m cap]) (by simp [results, Tryd.results34, go_sem]) rfl ⟨rfl, (Below.refl _ _).alloc (Nat.le_refl _) _⟩
/-- a whole number's two cells in a block of their own -/
def Bx (W : World) (g : Nat) (x y : Value) : Prop := W.heap[g]? = some (.cells #[x, y] 24 (0, 0))
theorem Bx.lt {W : World} {g : Nat} {x y : Value} (h : Bx W g x y) : g < W.heap.size := (Array.getElem?_eq_some_iff.1 h).1
theorem Bx.c0 {W : World} {g : Nat} {x y : Value} (h : Bx W g x y) : W.cell? ⟨g, 0, none⟩ = some x := cell_of_row W g 0 _ _ (0, 0) h
theorem Bx.c1 {W : World} {g : Nat} {x y : Value} (h : Bx W g x y) : W.cell? ⟨g, 1, none⟩ = some y := cell_of_row W g 1 _ _ (0, 0) h
theorem Bx.f {W : World} {g : Nat} {x y : Value} (h : Bx W g x y) (i : Nat) : W.frozen? ⟨g, i, none⟩ = false := by simp [World.frozen?, show W.heap[g]? = _ from h]
theorem Bx.behind {W W' : World} {g : Nat} {x y : Value} (h : Bx W g x y) (hb : Below W.heap.size W W') : Bx W' g x y := (hb.block g h.lt).trans h
theorem Bx.drew {W : World} {g : Nat} {x y : Value} (h : Bx W g x y) : Bx W.drew g x y := h
theorem Bx.new (W : World) (x y : Value) : Bx (W.alloc (.cells #[x, y] 24)) W.heap.size x y := World.alloc_heap_new W _
theorem Bx.put {W : World} {g : Nat} {x y : Value} (h : Bx W g x y) {p : Addr} (hp : g ≠ p.block) (u : Value) : Bx (W.setCell p u) g x y := (Below.heap_setCell _ _ _ _ hp).trans h
theorem bel_alloc (W : World) (o : Obj) : Below W.heap.size W (W.alloc o) := (Below.refl _ _).alloc (Nat.le_refl _) o
theorem New.mono {n n' : Nat} {W : World} {v : Value} {xs : List Nat} (h : New n W v xs) (hn : n' ≤ n) : New n' W v xs := by
  obtain ⟨S, h1, h2, h3⟩ := h
  exact ⟨S, h1, h2, h3.imp id fun h => Nat.le_trans hn h⟩
theorem New.put {n : Nat} {W : World} {v : Value} {xs : List Nat} (h : New n W v xs) {p : Addr} (hp : p.block < n) (u : Value) : New n (W.setCell p u) v xs := by
  obtain ⟨S, h1, h2, h3⟩ := h
  have hz : (W.setCell p u).heap.size = W.heap.size := by simp [World.setCell]
  refine ⟨S, ?_, by omega, h3⟩
  rcases h3 with rfl | h3
  · rcases h1 with h1 | ⟨_, _, e, _⟩
    · exact .inl h1
    · cases e
  · exact h1.kept (Below.heap_setCell _ _ _ _ (by omega))
theorem told_num {n : Nat} {s : Bool} {u : Value} {M : Nat} {w : World} (h : New n w u (digs 18446744073709551616 M)) :
    Calls Tryd.prog 34 #[.bool s, u] w fun e W' => ∃ a m c, e = .returned (.agg #[.bool (decide (wn s M < 0)), .slice a m c]) ∧ New n W' (.slice a m c) (digs 18446744073709551616 (wn s M).natAbs) ∧ Below w.heap.size w W' := by
  obtain ⟨a, cap, e, h2⟩ := h.slice
  subst e
  refine (told_any s a _ cap w).mono fun e W' ⟨he, hb⟩ => ⟨a, _, cap, ?_, by rw [wn_abs]; exact h.behind hb, hb⟩
  rw [he, wn_neg, digs_len_pos]
theorem boxes2 (w : World) (x y p q : Value) : Below w.heap.size w ((w.alloc (.cells #[x, y] 24)).alloc (.cells #[p, q] 24)) ∧ Bx ((w.alloc (.cells #[x, y] 24)).alloc (.cells #[p, q] 24)) w.heap.size x y ∧ Bx ((w.alloc (.cells #[x, y] 24)).alloc (.cells #[p, q] 24)) (w.heap.size + 1) p q ∧ w.heap.size + 2 ≤ ((w.alloc (.cells #[x, y] 24)).alloc (.cells #[p, q] 24)).heap.size := by
  have h1 := Bx.new w x y
  have b1 := bel_alloc w (.cells #[x, y] 24)
  have z1 : (w.alloc (.cells #[x, y] 24)).heap.size = w.heap.size + 1 := World.size_alloc ..
  generalize w.alloc (.cells #[x, y] 24) = W at *
  have h2 := Bx.new W p q
  have b2 := bel_alloc W (.cells #[p, q] 24)
  rw [z1] at h2
  exact ⟨below_both b1 b2, h1.behind b2, h2, h2.lt⟩
theorem boxes3 (w : World) (x y x' y' p q : Value) : Below w.heap.size w (((w.alloc (.cells #[x, y] 24)).alloc (.cells #[x', y'] 24)).alloc (.cells #[p, q] 24)) ∧ Bx (((w.alloc (.cells #[x, y] 24)).alloc (.cells #[x', y'] 24)).alloc (.cells #[p, q] 24)) w.heap.size x y ∧ Bx (((w.alloc (.cells #[x, y] 24)).alloc (.cells #[x', y'] 24)).alloc (.cells #[p, q] 24)) (w.heap.size + 1) x' y' ∧ Bx (((w.alloc (.cells #[x, y] 24)).alloc (.cells #[x', y'] 24)).alloc (.cells #[p, q] 24)) (w.heap.size + 2) p q ∧ w.heap.size + 3 ≤ (((w.alloc (.cells #[x, y] 24)).alloc (.cells #[x', y'] 24)).alloc (.cells #[p, q] 24)).heap.size := by
  obtain ⟨b1, h1, h2, _⟩ := boxes2 w x y x' y'
  have z1 : ((w.alloc (.cells #[x, y] 24)).alloc (.cells #[x', y'] 24)).heap.size = w.heap.size + 2 := by rw [World.size_alloc, World.size_alloc]
  generalize (w.alloc (.cells #[x, y] 24)).alloc (.cells #[x', y'] 24) = W at *
  have h3 := Bx.new W p q
  have b2 := bel_alloc W (.cells #[p, q] 24)
  rw [z1] at h3
  exact ⟨below_both b1 b2, h1.behind b2, h2.behind b2, h3, h3.lt⟩
theorem wend {w W : World} {n r : Nat} {ta : Option Addr} {tm tc : Nat} {z : Int} (hB : Below w.heap.size w W) (hr : w.heap.size ≤ r) (hn : r < n) (nt : New n W (.slice ta tm tc) (digs 18446744073709551616 z.natAbs)) (hz : z = z) :
    ∃ b a m c, (Ending.returned (.agg #[.bool (decide (z < 0)), .slice ta tm tc])) = .returned (.agg #[.bool b, .slice a m c]) ∧ WNew w.heap.size ((W.setCell ⟨r, 0, none⟩ (.bool (decide (z < 0)))).setCell ⟨r, 1, none⟩ (.slice ta tm tc)) (.agg #[.bool b, .slice a m c]) z ∧ Below w.heap.size w ((W.setCell ⟨r, 0, none⟩ (.bool (decide (z < 0)))).setCell ⟨r, 1, none⟩ (.slice ta tm tc)) :=
  ⟨_, _, _, _, rfl, ⟨_, rfl, ((nt.put hn _).put hn _).mono (by omega)⟩, (hB.setCell hr _).setCell hr _⟩
set_option maxRecDepth 100000 in
theorem wnorm_any {s : Bool} {a : Option Addr} {m cap : Nat} {M i : Nat} {w : World} (hA : Num w (.slice a m cap) M i) (hi : i ≤ 17592186044416) :
    Calls Tryd.prog 43 #[.agg #[.bool s, .slice a m cap]] w fun e W' => ∃ b a m c, e = .returned (.agg #[.bool b, .slice a m c]) ∧ WNew w.heap.size W' (.agg #[.bool b, .slice a m c]) (wn s M) ∧ Below w.heap.size w W' := by
  go_enter Tryd.func43, Tryd.ntmps43
  go_wp2
  have hb := boxes2 w (.bool s) (.slice a m cap) (.bool false) (.slice none 0 0)
  generalize (w.alloc (.cells #[.bool s, .slice a m cap] 24)).alloc (.cells #[.bool false, .slice none 0 0] 24) = W0 at hb ⊢
  obtain ⟨hB, G, R, hsz⟩ := hb
  have hA := hA.behind hB
  have bd := (Below.refl (W0).heap.size (W0)).drew
  have hA := hA.behind bd
  have G := G.behind bd
  have R := R.behind bd
  have B0 := below_both hB bd
  clear bd
  have c0 := G.c0
  have c1 := G.c1
  go_region_held3 (fun w' => w'.cell? ⟨w.heap.size, 0, none⟩ = some (.bool s) ∧ w'.cell? ⟨w.heap.size, 1, none⟩ = some (.slice a m cap)) (first | (go_keep; done) | exact ⟨G.c0, G.c1⟩ | exact ⟨((G.put (by simp <;> omega) _).put (by simp <;> omega) _).c0, ((G.put (by simp <;> omega) _).put (by simp <;> omega) _).c1⟩ | (refine ⟨?_, ?_⟩ <;> go_keep))
    (first
      | (have _ := B1; go_at_call 34; (with_reducible refine (told_num nw).mono ?_); rintro e w2 ⟨ta, tm, tc, rfl, nt, b2⟩; have G := G.behind b2; have R := R.behind b2; have B2 := below_both B1 b2; clear b2; have r0 := R.c0; have r1 := R.c1; have r2 := R.f 0; have r3 := R.f 1)
      | (go_at_call 42; (with_reducible refine (norm_num hA hi).mono ?_); rintro e w1 ⟨v, rfl, u, nw, b1⟩; have G := G.behind b1; have R := R.behind b1; have B1 := below_both B0 b1; clear b1))
  go_wp2
  exact bodyPost_ret (v := .agg #[.bool _, .slice ta tm tc]) (by simp [results, Tryd.results43, go_sem, r0, r1]) rfl (wend B2 (r := w.heap.size + 1) (by omega) (by show _ < W0.heap.size; omega) nt (z := wn s M) rfl)
set_option maxRecDepth 100000 in
theorem wneg_any {s : Bool} {a : Option Addr} {m cap : Nat} {M i : Nat} {w : World} (hA : Num w (.slice a m cap) M i) (hi : i ≤ 17592186044416) :
    Calls Tryd.prog 23 #[.agg #[.bool s, .slice a m cap]] w fun e W' => ∃ b a m c, e = .returned (.agg #[.bool b, .slice a m c]) ∧ WNew w.heap.size W' (.agg #[.bool b, .slice a m c]) (wn (!s) M) ∧ Below w.heap.size w W' := by
  go_enter Tryd.func23, Tryd.ntmps23
  go_wp2
  have hb := boxes2 w (.bool s) (.slice a m cap) (.bool false) (.slice none 0 0)
  generalize (w.alloc (.cells #[.bool s, .slice a m cap] 24)).alloc (.cells #[.bool false, .slice none 0 0] 24) = W0 at hb ⊢
  obtain ⟨hB, G, R, hsz⟩ := hb
  have hA := hA.behind hB
  have bd := (Below.refl (W0).heap.size (W0)).drew
  have hA := hA.behind bd
  have G := G.behind bd
  have R := R.behind bd
  have B0 := below_both hB bd
  clear bd
  have c0 := G.c0
  have c1 := G.c1
  go_region_held3 (fun w' => w'.cell? ⟨w.heap.size, 0, none⟩ = some (.bool s) ∧ w'.cell? ⟨w.heap.size, 1, none⟩ = some (.slice a m cap)) (first | (go_keep; done) | exact ⟨G.c0, G.c1⟩ | exact ⟨((G.put (by simp <;> omega) _).put (by simp <;> omega) _).c0, ((G.put (by simp <;> omega) _).put (by simp <;> omega) _).c1⟩ | (refine ⟨?_, ?_⟩ <;> go_keep))
    (first
      | (have _ := B1; go_at_call 34; (with_reducible refine (told_num nw).mono ?_); rintro e w2 ⟨ta, tm, tc, rfl, nt, b2⟩; have G := G.behind b2; have R := R.behind b2; have B2 := below_both B1 b2; clear b2; have r0 := R.c0; have r1 := R.c1; have r2 := R.f 0; have r3 := R.f 1)
      | (go_at_call 42; (with_reducible refine (norm_num hA hi).mono ?_); rintro e w1 ⟨v, rfl, u, nw, b1⟩; have G := G.behind b1; have R := R.behind b1; have B1 := below_both B0 b1; clear b1))
  go_wp2
  exact bodyPost_ret (v := .agg #[.bool _, .slice ta tm tc]) (by simp [results, Tryd.results23, go_sem, r0, r1]) rfl (wend B2 (r := w.heap.size + 1) (by omega) (by show _ < W0.heap.size; omega) nt (z := wn (!s) M) rfl)
set_option maxRecDepth 100000 in
theorem wmul_any {s t : Bool} {a a' : Option Addr} {m cap m' cap' : Nat} {M i N j : Nat} {w : World} (hA : Num w (.slice a m cap) M i) (hC : Num w (.slice a' m' cap') N j) (hij : i + j ≤ 17592186044416) :
    Calls Tryd.prog 16 #[.agg #[.bool s, .slice a m cap], .agg #[.bool t, .slice a' m' cap']] w fun e W' => ∃ b a m c, e = .returned (.agg #[.bool b, .slice a m c]) ∧ WNew w.heap.size W' (.agg #[.bool b, .slice a m c]) (wn (!s == t) (M * N)) ∧ Below w.heap.size w W' := by
  go_enter Tryd.func16, Tryd.ntmps16
  go_wp2
  have hb := boxes3 w (.bool s) (.slice a m cap) (.bool t) (.slice a' m' cap') (.bool false) (.slice none 0 0)
  generalize ((w.alloc (.cells #[.bool s, .slice a m cap] 24)).alloc (.cells #[.bool t, .slice a' m' cap'] 24)).alloc (.cells #[.bool false, .slice none 0 0] 24) = W0 at hb ⊢
  obtain ⟨hB, G, G2, R, hsz⟩ := hb
  have hA := hA.behind hB
  have hC := hC.behind hB
  have bd := (Below.refl (W0).heap.size (W0)).drew
  have hA := hA.behind bd
  have hC := hC.behind bd
  have G := G.behind bd
  have G2 := G2.behind bd
  have R := R.behind bd
  have B0 := below_both hB bd
  clear bd
  have c0 := G.c0
  have c1 := G.c1
  have c2 := G2.c0
  have c3 := G2.c1
  go_region_held3 (fun w' => w'.cell? ⟨w.heap.size, 0, none⟩ = some (.bool s) ∧ w'.cell? ⟨w.heap.size, 1, none⟩ = some (.slice a m cap) ∧ w'.cell? ⟨w.heap.size + 1, 0, none⟩ = some (.bool t) ∧ w'.cell? ⟨w.heap.size + 1, 1, none⟩ = some (.slice a' m' cap')) (first | (go_keep; done) | exact ⟨G.c0, G.c1, G2.c0, G2.c1⟩ | exact ⟨((G.put (by simp <;> omega) _).put (by simp <;> omega) _).c0, ((G.put (by simp <;> omega) _).put (by simp <;> omega) _).c1, ((G2.put (by simp <;> omega) _).put (by simp <;> omega) _).c0, ((G2.put (by simp <;> omega) _).put (by simp <;> omega) _).c1⟩ | (refine ⟨?_, ?_, ?_, ?_⟩ <;> go_keep))
    (first
      | (have _ := B1; go_at_call 34; (with_reducible refine (told_num nw).mono ?_); rintro e w2 ⟨ta, tm, tc, rfl, nt, b2⟩; have G := G.behind b2; have G2 := G2.behind b2; have R := R.behind b2; have B2 := below_both B1 b2; clear b2; have r0 := R.c0; have r1 := R.c1; have r2 := R.f 0; have r3 := R.f 1)
      | (go_at_call 17; (with_reducible refine (mul_num hA hC hij).mono ?_); rintro e w1 ⟨v, rfl, u, nw, b1⟩; have G := G.behind b1; have G2 := G2.behind b1; have R := R.behind b1; have B1 := below_both B0 b1; clear b1))
  go_wp2
  exact bodyPost_ret (v := .agg #[.bool _, .slice ta tm tc]) (by simp [results, Tryd.results16, go_sem, r0, r1]) rfl (wend B2 (r := w.heap.size + 2) (by omega) (by show _ < W0.heap.size; omega) nt (z := wn (!s == t) (M * N)) rfl)
set_option maxRecDepth 100000 in
theorem wadd_same_true {a a' : Option Addr} {m cap m' cap' : Nat} {M i N j : Nat} {w : World} (hA : Num w (.slice a m cap) M i) (hC : Num w (.slice a' m' cap') N j) (hi : i ≤ 17592186044416) (hj : j ≤ 17592186044416) :
    Calls Tryd.prog 20 #[.agg #[.bool true, .slice a m cap], .agg #[.bool true, .slice a' m' cap']] w fun e W' => ∃ b a m c, e = .returned (.agg #[.bool b, .slice a m c]) ∧ WNew w.heap.size W' (.agg #[.bool b, .slice a m c]) (wn true (M + N)) ∧ Below w.heap.size w W' := by
  go_enter Tryd.func20, Tryd.ntmps20
  go_wp2
  have hb := boxes3 w (.bool true) (.slice a m cap) (.bool true) (.slice a' m' cap') (.bool false) (.slice none 0 0)
  generalize ((w.alloc (.cells #[.bool true, .slice a m cap] 24)).alloc (.cells #[.bool true, .slice a' m' cap'] 24)).alloc (.cells #[.bool false, .slice none 0 0] 24) = W0 at hb ⊢
  obtain ⟨hB, G, G2, R, hsz⟩ := hb
  have hA := hA.behind hB
  have hC := hC.behind hB
  have bd := (Below.refl (W0).heap.size (W0)).drew
  have hA := hA.behind bd
  have hC := hC.behind bd
  have G := G.behind bd
  have G2 := G2.behind bd
  have R := R.behind bd
  have B0 := below_both hB bd
  clear bd
  have c0 := G.c0
  have c1 := G.c1
  have c2 := G2.c0
  have c3 := G2.c1
  go_region_held3 (fun w' => w'.cell? ⟨w.heap.size, 0, none⟩ = some (.bool true) ∧ w'.cell? ⟨w.heap.size, 1, none⟩ = some (.slice a m cap) ∧ w'.cell? ⟨w.heap.size + 1, 0, none⟩ = some (.bool true) ∧ w'.cell? ⟨w.heap.size + 1, 1, none⟩ = some (.slice a' m' cap')) (first | (go_keep; done) | exact ⟨G.c0, G.c1, G2.c0, G2.c1⟩ | exact ⟨((G.put (by simp <;> omega) _).put (by simp <;> omega) _).c0, ((G.put (by simp <;> omega) _).put (by simp <;> omega) _).c1, ((G2.put (by simp <;> omega) _).put (by simp <;> omega) _).c0, ((G2.put (by simp <;> omega) _).put (by simp <;> omega) _).c1⟩ | (refine ⟨?_, ?_, ?_, ?_⟩ <;> go_keep))
    (first
      | (have _ := B1; go_at_call 34; (with_reducible refine (told_num nw).mono ?_); rintro e w2 ⟨ta, tm, tc, rfl, nt, b2⟩; have G := G.behind b2; have G2 := G2.behind b2; have R := R.behind b2; have B2 := below_both B1 b2; clear b2; have r0 := R.c0; have r1 := R.c1; have r2 := R.f 0; have r3 := R.f 1)
      | (go_at_call 44; (with_reducible refine (add_num hA hC hi hj).mono ?_); rintro e w1 ⟨v, rfl, u, nw, b1⟩; have G := G.behind b1; have G2 := G2.behind b1; have R := R.behind b1; have B1 := below_both B0 b1; clear b1))
  go_wp2
  exact bodyPost_ret (v := .agg #[.bool _, .slice ta tm tc]) (by simp [results, Tryd.results20, go_sem, r0, r1]) rfl (wend B2 (r := w.heap.size + 2) (by omega) (by show _ < W0.heap.size; omega) nt (z := wn true (M + N)) rfl)
set_option maxRecDepth 100000 in
theorem wadd_same_false {a a' : Option Addr} {m cap m' cap' : Nat} {M i N j : Nat} {w : World} (hA : Num w (.slice a m cap) M i) (hC : Num w (.slice a' m' cap') N j) (hi : i ≤ 17592186044416) (hj : j ≤ 17592186044416) :
    Calls Tryd.prog 20 #[.agg #[.bool false, .slice a m cap], .agg #[.bool false, .slice a' m' cap']] w fun e W' => ∃ b a m c, e = .returned (.agg #[.bool b, .slice a m c]) ∧ WNew w.heap.size W' (.agg #[.bool b, .slice a m c]) (wn false (M + N)) ∧ Below w.heap.size w W' := by
  go_enter Tryd.func20, Tryd.ntmps20
  go_wp2
  have hb := boxes3 w (.bool false) (.slice a m cap) (.bool false) (.slice a' m' cap') (.bool false) (.slice none 0 0)
  generalize ((w.alloc (.cells #[.bool false, .slice a m cap] 24)).alloc (.cells #[.bool false, .slice a' m' cap'] 24)).alloc (.cells #[.bool false, .slice none 0 0] 24) = W0 at hb ⊢
  obtain ⟨hB, G, G2, R, hsz⟩ := hb
  have hA := hA.behind hB
  have hC := hC.behind hB
  have bd := (Below.refl (W0).heap.size (W0)).drew
  have hA := hA.behind bd
  have hC := hC.behind bd
  have G := G.behind bd
  have G2 := G2.behind bd
  have R := R.behind bd
  have B0 := below_both hB bd
  clear bd
  have c0 := G.c0
  have c1 := G.c1
  have c2 := G2.c0
  have c3 := G2.c1
  go_region_held3 (fun w' => w'.cell? ⟨w.heap.size, 0, none⟩ = some (.bool false) ∧ w'.cell? ⟨w.heap.size, 1, none⟩ = some (.slice a m cap) ∧ w'.cell? ⟨w.heap.size + 1, 0, none⟩ = some (.bool false) ∧ w'.cell? ⟨w.heap.size + 1, 1, none⟩ = some (.slice a' m' cap')) (first | (go_keep; done) | exact ⟨G.c0, G.c1, G2.c0, G2.c1⟩ | exact ⟨((G.put (by simp <;> omega) _).put (by simp <;> omega) _).c0, ((G.put (by simp <;> omega) _).put (by simp <;> omega) _).c1, ((G2.put (by simp <;> omega) _).put (by simp <;> omega) _).c0, ((G2.put (by simp <;> omega) _).put (by simp <;> omega) _).c1⟩ | (refine ⟨?_, ?_, ?_, ?_⟩ <;> go_keep))
    (first
      | (have _ := B1; go_at_call 34; (with_reducible refine (told_num nw).mono ?_); rintro e w2 ⟨ta, tm, tc, rfl, nt, b2⟩; have G := G.behind b2; have G2 := G2.behind b2; have R := R.behind b2; have B2 := below_both B1 b2; clear b2; have r0 := R.c0; have r1 := R.c1; have r2 := R.f 0; have r3 := R.f 1)
      | (go_at_call 44; (with_reducible refine (add_num hA hC hi hj).mono ?_); rintro e w1 ⟨v, rfl, u, nw, b1⟩; have G := G.behind b1; have G2 := G2.behind b1; have R := R.behind b1; have B1 := below_both B0 b1; clear b1))
  go_wp2
  exact bodyPost_ret (v := .agg #[.bool _, .slice ta tm tc]) (by simp [results, Tryd.results20, go_sem, r0, r1]) rfl (wend B2 (r := w.heap.size + 2) (by omega) (by show _ < W0.heap.size; omega) nt (z := wn false (M + N)) rfl)
end Go.Proofs.YtfbnpdlkbabmfaaDoor
