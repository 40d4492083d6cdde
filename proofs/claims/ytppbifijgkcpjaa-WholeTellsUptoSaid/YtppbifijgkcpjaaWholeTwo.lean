/- whole's calls that choose: Add of unlike signs, Sub, Sign, Cmp, Of. -/
import Derived.Test.YtppbifijgkcpjaaWhole
import Derived.Lib.Hide
namespace Go.Proofs.Ytppbifijgkcpjaa
open Go.RowKit Go.Shelf
attribute [local go_sem ↓] Go.wp_at_zero Go.wp_at_succ
theorem Bx.set {W : World} {g : Nat} {x y : Value} (h : Bx W g x y) (x' y' : Value) : Bx ((W.setCell ⟨g, 0, none⟩ x').setCell ⟨g, 1, none⟩ y') g x' y' := by
  have hl := h.lt
  have e : W.heap[g]? = _ := h
  unfold Bx
  simp [World.setCell, World.heap, Array.getElem?_modify, e]
theorem unlike_wn (s : Bool) (M N : Nat) : wn (bif decide (0 ≤ cmpN M N) then s else !s) (dist M N) = wn s M + wn (!s) N := by
  rcases Nat.lt_or_ge M N with h | h
  · rw [cmpN_lt h]; cases s <;> simp [wn, dist] <;> omega
  · have h2 : 0 ≤ cmpN M N := by
      unfold cmpN; rw [if_neg (by omega)]; split <;> omega
    rw [decide_eq_true h2]; cases s <;> simp [wn, dist] <;> omega
theorem bel_ad (W : World) (o : Obj) : Below W.drew.heap.size W.drew (W.alloc o).drew := bel_alloc W.drew o

theorem either_whole_true {s t : Bool} {a a' : Option Addr} {m cap m' cap' : Nat} {w : World} :
    Calls Try.prog 71 #[.bool true, .agg #[.bool s, .slice a m cap], .agg #[.bool t, .slice a' m' cap']] w fun e W' => ∃ x y z, e = .returned (.agg #[.bool s, .slice x y z]) ∧ Below w.heap.size w W' := by
  go_enter Try.func71, Try.ntmps71
  go_wp2
  exact bodyPost_ret (v := .agg #[.bool s, .slice a m cap]) (by simp [results, Try.results71, go_sem]) rfl ⟨_, _, _, rfl, (((Below.refl _ _).alloc (Nat.le_refl _) _).alloc (by simp) _).alloc (by simp <;> omega) _⟩
theorem either_whole_false {s t : Bool} {a a' : Option Addr} {m cap m' cap' : Nat} {w : World} :
    Calls Try.prog 71 #[.bool false, .agg #[.bool s, .slice a m cap], .agg #[.bool t, .slice a' m' cap']] w fun e W' => ∃ x y z, e = .returned (.agg #[.bool t, .slice x y z]) ∧ Below w.heap.size w W' := by
  go_enter Try.func71, Try.ntmps71
  go_wp2
  exact bodyPost_ret (v := .agg #[.bool t, .slice a' m' cap']) (by simp [results, Try.results71, go_sem]) rfl ⟨_, _, _, rfl, (((Below.refl _ _).alloc (Nat.le_refl _) _).alloc (by simp) _).alloc (by simp <;> omega) _⟩
theorem either_whole {c s t : Bool} {a a' : Option Addr} {m cap m' cap' : Nat} {w : World} :
    Calls Try.prog 71 #[.bool c, .agg #[.bool s, .slice a m cap], .agg #[.bool t, .slice a' m' cap']] w fun e W' => ∃ f x y z, e = .returned (.agg #[.bool f, .slice x y z]) ∧ Hid (f = bif c then s else t) ∧ Below w.heap.size w W' := by
  cases c
  · exact either_whole_false.mono fun e W' ⟨x, y, z, h1, h2⟩ => ⟨_, x, y, z, h1, Lib.hid rfl, h2⟩
  · exact either_whole_true.mono fun e W' ⟨x, y, z, h1, h2⟩ => ⟨_, x, y, z, h1, Lib.hid rfl, h2⟩
set_option maxHeartbeats 4000000 in
set_option maxRecDepth 100000 in
theorem wadd_unlike_true {a a' : Option Addr} {m cap m' cap' : Nat} {M i N j : Nat} {w : World} (hA : Num w (.slice a m cap) M i) (hC : Num w (.slice a' m' cap') N j) (hi : i ≤ 17592186044416) (hj : j ≤ 17592186044416) :
    Calls Try.prog 42 #[.agg #[.bool true, .slice a m cap], .agg #[.bool false, .slice a' m' cap']] w fun e W' => ∃ b a m c, e = .returned (.agg #[.bool b, .slice a m c]) ∧ WNew w.heap.size W' (.agg #[.bool b, .slice a m c]) (wn true M + wn false N) ∧ Below w.heap.size w W' := by
  have hAw := hA
  have hCw := hC
  go_enter Try.func42, Try.ntmps42
  go_wp2
  have hb := boxes3 w (.bool true) (.slice a m cap) (.bool false) (.slice a' m' cap') (.bool false) (.slice none 0 0)
  generalize ((w.alloc (.cells #[.bool true, .slice a m cap] 53)).alloc (.cells #[.bool false, .slice a' m' cap'] 53)).alloc (.cells #[.bool false, .slice none 0 0] 53) = W0 at hb ⊢
  obtain ⟨hB, G, G2, R, hsz⟩ := hb
  have hA := hA.behind hB
  have hC := hC.behind hB
  have bd := (Below.refl (W0).heap.size (W0)).drew
  have hA := hA.behind bd
  have hC := hC.behind bd
  have G := G.behind bd
  have G2 := G2.behind bd
  have R := R.behind bd
  have B0 := below_both hB bd
  clear bd
  have bz := Below.refl W0.drew.heap.size W0.drew
  have hsd : w.heap.size + 3 ≤ W0.drew.heap.size := hsz
  have c0 := G.c0
  have c1 := G.c1
  have c2 := G2.c0
  have c3 := G2.c1
  have n0 := World.new_ne _ _ c0
  have n1 := World.new_ne _ _ c2
  go_region_held3 (fun w' => w'.cell? ⟨w.heap.size, 0, none⟩ = some (.bool true) ∧ w'.cell? ⟨w.heap.size, 1, none⟩ = some (.slice a m cap) ∧ w'.cell? ⟨w.heap.size + 1, 0, none⟩ = some (.bool false) ∧ w'.cell? ⟨w.heap.size + 1, 1, none⟩ = some (.slice a' m' cap')) (first | exact ⟨G.c0, G.c1, G2.c0, G2.c1⟩ | exact ⟨(G.behind (bel_alloc _ _)).c0, (G.behind (bel_alloc _ _)).c1, (G2.behind (bel_alloc _ _)).c0, (G2.behind (bel_alloc _ _)).c1⟩ | exact ⟨(G.behind (bel_ad _ _)).c0, (G.behind (bel_ad _ _)).c1, (G2.behind (bel_ad _ _)).c0, (G2.behind (bel_ad _ _)).c1⟩ | exact ⟨((G.put (by simp <;> omega) _).put (by simp <;> omega) _).c0, ((G.put (by simp <;> omega) _).put (by simp <;> omega) _).c1, ((G2.put (by simp <;> omega) _).put (by simp <;> omega) _).c0, ((G2.put (by simp <;> omega) _).put (by simp <;> omega) _).c1⟩ | exact ⟨(((G.behind (bel_alloc _ _)).put (by simp <;> omega) _).put (by simp <;> omega) _).c0, (((G.behind (bel_alloc _ _)).put (by simp <;> omega) _).put (by simp <;> omega) _).c1, (((G2.behind (bel_alloc _ _)).put (by simp <;> omega) _).put (by simp <;> omega) _).c0, (((G2.behind (bel_alloc _ _)).put (by simp <;> omega) _).put (by simp <;> omega) _).c1⟩ | (refine ⟨?_, ?_, ?_, ?_⟩ <;> go_keep))
    (first
      | (have _ := B1; go_at_call 71; (with_reducible refine either_whole.mono ?_); rintro e w2 ⟨f, x, y, z, rfl, hf, b2⟩; have B2 : Below W0.drew.heap.size W0.drew w2 := (by first | exact below_both B1 b2 | exact below_both (below_both B1 (bel_alloc _ _)) b2); have z2 := B2.size; have hA := (by first | exact hA.behind b2 | exact (hA.behind (bel_alloc _ _)).behind b2 | exact (hA.behind (bel_ad _ _)).behind b2); have hC := (by first | exact hC.behind b2 | exact (hC.behind (bel_alloc _ _)).behind b2 | exact (hC.behind (bel_ad _ _)).behind b2); have G := (by first | exact G.behind b2 | exact (G.behind (bel_alloc _ _)).behind b2 | exact (G.behind (bel_ad _ _)).behind b2); have G2 := (by first | exact G2.behind b2 | exact (G2.behind (bel_alloc _ _)).behind b2 | exact (G2.behind (bel_ad _ _)).behind b2); have R := (by first | exact R.behind b2 | exact (R.behind (bel_alloc _ _)).behind b2 | exact (R.behind (bel_ad _ _)).behind b2); (first | (have F := F.behind b2; have F0 := F.c0; have F1 := F.c1; have F2 := F.f 0; have F3 := F.f 1) | (have F := (Bx.new w1 (.bool false) (.slice none 0 0)).behind b2; have F0 := F.c0; have F1 := F.c1; have F2 := F.f 0; have F3 := F.f 1) | skip); clear b2)
      | (go_at_call 23; (first | (with_reducible refine (cmp_num hA hC hi hj).mono ?_) | (with_reducible refine (cmp_num (hA.behind (bel_ad _ _)) (hC.behind (bel_ad _ _)) hi hj).mono ?_)); rintro e w1 ⟨rfl, b1⟩; have B1 : Below W0.drew.heap.size W0.drew w1 := (by first | exact below_both bz b1 | exact below_both (bel_ad _ _) b1); have z1 := B1.size; have hA := (by first | exact hA.behind b1 | exact (hA.behind (bel_alloc _ _)).behind b1 | exact (hA.behind (bel_ad _ _)).behind b1); have hC := (by first | exact hC.behind b1 | exact (hC.behind (bel_alloc _ _)).behind b1 | exact (hC.behind (bel_ad _ _)).behind b1); have G := (by first | exact G.behind b1 | exact (G.behind (bel_alloc _ _)).behind b1 | exact (G.behind (bel_ad _ _)).behind b1); have G2 := (by first | exact G2.behind b1 | exact (G2.behind (bel_alloc _ _)).behind b1 | exact (G2.behind (bel_ad _ _)).behind b1); have R := (by first | exact R.behind b1 | exact (R.behind (bel_alloc _ _)).behind b1 | exact (R.behind (bel_ad _ _)).behind b1); (first | (have F := (Bx.new W0 (.bool false) (.slice none 0 0)).drew.behind b1) | skip); clear b1))
  all_goals
    first
    | (have F : Bx _ (w1.heap.size) _ _ := F.set (.bool f) (.slice x y z); have hgz : w.heap.size + 3 ≤ w1.heap.size := by (try simp) <;> omega
       have BN := ((below_both B0 B2).setCell (p := ⟨w1.heap.size, 0, none⟩) (by show _ ≤ w1.heap.size; omega) (.bool f)).setCell (p := ⟨w1.heap.size, 1, none⟩) (by show _ ≤ w1.heap.size; omega) (.slice x y z); have G := (G.put (p := ⟨w1.heap.size, 0, none⟩) (by show _ ≠ w1.heap.size; omega) (.bool f)).put (p := ⟨w1.heap.size, 1, none⟩) (by show _ ≠ w1.heap.size; omega) (.slice x y z); have G2 := (G2.put (p := ⟨w1.heap.size, 0, none⟩) (by show _ ≠ w1.heap.size; omega) (.bool f)).put (p := ⟨w1.heap.size, 1, none⟩) (by show _ ≠ w1.heap.size; omega) (.slice x y z); have R := (R.put (p := ⟨w1.heap.size, 0, none⟩) (by show _ ≠ w1.heap.size; omega) (.bool f)).put (p := ⟨w1.heap.size, 1, none⟩) (by show _ ≠ w1.heap.size; omega) (.slice x y z)
       generalize ((w2.setCell ⟨w1.heap.size, 0, none⟩ (.bool f)).setCell ⟨w1.heap.size, 1, none⟩ (.slice x y z)) = Wn at F BN G G2 R ⊢; generalize w1.heap.size = g at F BN G G2 R hgz ⊢)
    | (have F : Bx _ (W0.heap.size) _ _ := F.set (.bool f) (.slice x y z); have hgz : w.heap.size + 3 ≤ W0.heap.size := by (try simp) <;> omega
       have BN := ((below_both B0 B2).setCell (p := ⟨W0.heap.size, 0, none⟩) (by show _ ≤ W0.heap.size; omega) (.bool f)).setCell (p := ⟨W0.heap.size, 1, none⟩) (by show _ ≤ W0.heap.size; omega) (.slice x y z); have G := (G.put (p := ⟨W0.heap.size, 0, none⟩) (by show _ ≠ W0.heap.size; omega) (.bool f)).put (p := ⟨W0.heap.size, 1, none⟩) (by show _ ≠ W0.heap.size; omega) (.slice x y z); have G2 := (G2.put (p := ⟨W0.heap.size, 0, none⟩) (by show _ ≠ W0.heap.size; omega) (.bool f)).put (p := ⟨W0.heap.size, 1, none⟩) (by show _ ≠ W0.heap.size; omega) (.slice x y z); have R := (R.put (p := ⟨W0.heap.size, 0, none⟩) (by show _ ≠ W0.heap.size; omega) (.bool f)).put (p := ⟨W0.heap.size, 1, none⟩) (by show _ ≠ W0.heap.size; omega) (.slice x y z)
       generalize ((w2.setCell ⟨W0.heap.size, 0, none⟩ (.bool f)).setCell ⟨W0.heap.size, 1, none⟩ (.slice x y z)) = Wn at F BN G G2 R ⊢; generalize W0.heap.size = g at F BN G G2 R hgz ⊢)
    | (have F := Bx.new w2 (.bool f) (.slice x y z); have BN := below_both (below_both B0 B2) (bel_alloc w2 (.cells #[.bool f, .slice x y z] 53)); have G := G.behind (bel_alloc w2 (.cells #[.bool f, .slice x y z] 53)); have G2 := G2.behind (bel_alloc w2 (.cells #[.bool f, .slice x y z] 53)); have R := R.behind (bel_alloc w2 (.cells #[.bool f, .slice x y z] 53)); have hgz : w.heap.size + 3 ≤ w2.heap.size := by omega
       generalize (w2.alloc (.cells #[.bool f, .slice x y z] 53)) = Wn at F BN G G2 R ⊢; generalize w2.heap.size = g at F BN G G2 R hgz ⊢)
    have hA := hAw.behind BN
    have hC := hCw.behind BN
    clear B2 B1 B0 bz hB
    have hgn : w.heap.size + 3 ≤ Wn.heap.size := Nat.le_trans hgz (Nat.le_of_lt F.lt)
    go_wp2
    have bd := (Below.refl (Wn).heap.size (Wn)).drew
    have hA := hA.behind bd
    have hC := hC.behind bd
    have F := F.behind bd
    have G := G.behind bd
    have G2 := G2.behind bd
    have R := R.behind bd
    have B4 := below_both BN bd
    clear bd
    have c0 := F.c0
    have c1 := F.c1
    have c2 := G.c0
    have c3 := G.c1
    have c4 := G2.c0
    have c5 := G2.c1
    go_region_held3 (fun w' => w'.cell? ⟨g, 0, none⟩ = some (.bool f) ∧ w'.cell? ⟨g, 1, none⟩ = some (.slice x y z) ∧ w'.cell? ⟨w.heap.size, 0, none⟩ = some (.bool true) ∧ w'.cell? ⟨w.heap.size, 1, none⟩ = some (.slice a m cap) ∧ w'.cell? ⟨w.heap.size + 1, 0, none⟩ = some (.bool false) ∧ w'.cell? ⟨w.heap.size + 1, 1, none⟩ = some (.slice a' m' cap')) (first | exact ⟨F.c0, F.c1, G.c0, G.c1, G2.c0, G2.c1⟩ | exact ⟨((F.put (by simp <;> omega) _).put (by simp <;> omega) _).c0, ((F.put (by simp <;> omega) _).put (by simp <;> omega) _).c1, ((G.put (by simp <;> omega) _).put (by simp <;> omega) _).c0, ((G.put (by simp <;> omega) _).put (by simp <;> omega) _).c1, ((G2.put (by simp <;> omega) _).put (by simp <;> omega) _).c0, ((G2.put (by simp <;> omega) _).put (by simp <;> omega) _).c1⟩ | (refine ⟨?_, ?_, ?_, ?_, ?_, ?_⟩ <;> go_keep))
      (first
        | (have _ := Bq1; go_at_call 70; (with_reducible refine (told_num nw).mono ?_); rintro e wq2 ⟨ta, tm, tc, rfl, nt, bq2⟩; have F := F.behind bq2; have G := G.behind bq2; have G2 := G2.behind bq2; have R := R.behind bq2; have Bq2 := below_both Bq1 bq2; clear bq2; have r0 := R.c0; have r1 := R.c1; have r2 := R.f 0; have r3 := R.f 1)
        | (go_at_call 19; (with_reducible refine (sub_num hA hC hi hj).mono ?_); rintro e wq1 ⟨v, rfl, u, nw, bq1⟩; have F := F.behind bq1; have G := G.behind bq1; have G2 := G2.behind bq1; have R := R.behind bq1; have Bq1 := below_both B4 bq1; clear bq1))
    have hz : wn true M + wn false N = wn f (dist M N) := by rw [hf.out]; exact (unlike_wn true M N).symm
    go_wp2
    exact bodyPost_ret (v := .agg #[.bool (decide (wn f (dist M N) < 0)), .slice ta tm tc]) (by simp [results, Try.results42, go_sem, r0, r1]) rfl (by rw [hz]; exact wend Bq2 (r := w.heap.size + 2) (by omega) (by show _ < Wn.heap.size; omega) nt (z := wn f (dist M N)) rfl)
set_option maxHeartbeats 4000000 in
set_option maxRecDepth 100000 in
theorem wadd_unlike_false {a a' : Option Addr} {m cap m' cap' : Nat} {M i N j : Nat} {w : World} (hA : Num w (.slice a m cap) M i) (hC : Num w (.slice a' m' cap') N j) (hi : i ≤ 17592186044416) (hj : j ≤ 17592186044416) :
    Calls Try.prog 42 #[.agg #[.bool false, .slice a m cap], .agg #[.bool true, .slice a' m' cap']] w fun e W' => ∃ b a m c, e = .returned (.agg #[.bool b, .slice a m c]) ∧ WNew w.heap.size W' (.agg #[.bool b, .slice a m c]) (wn false M + wn true N) ∧ Below w.heap.size w W' := by
  have hAw := hA
  have hCw := hC
  go_enter Try.func42, Try.ntmps42
  go_wp2
  have hb := boxes3 w (.bool false) (.slice a m cap) (.bool true) (.slice a' m' cap') (.bool false) (.slice none 0 0)
  generalize ((w.alloc (.cells #[.bool false, .slice a m cap] 53)).alloc (.cells #[.bool true, .slice a' m' cap'] 53)).alloc (.cells #[.bool false, .slice none 0 0] 53) = W0 at hb ⊢
  obtain ⟨hB, G, G2, R, hsz⟩ := hb
  have hA := hA.behind hB
  have hC := hC.behind hB
  have bd := (Below.refl (W0).heap.size (W0)).drew
  have hA := hA.behind bd
  have hC := hC.behind bd
  have G := G.behind bd
  have G2 := G2.behind bd
  have R := R.behind bd
  have B0 := below_both hB bd
  clear bd
  have bz := Below.refl W0.drew.heap.size W0.drew
  have hsd : w.heap.size + 3 ≤ W0.drew.heap.size := hsz
  have c0 := G.c0
  have c1 := G.c1
  have c2 := G2.c0
  have c3 := G2.c1
  have n0 := World.new_ne _ _ c0
  have n1 := World.new_ne _ _ c2
  go_region_held3 (fun w' => w'.cell? ⟨w.heap.size, 0, none⟩ = some (.bool false) ∧ w'.cell? ⟨w.heap.size, 1, none⟩ = some (.slice a m cap) ∧ w'.cell? ⟨w.heap.size + 1, 0, none⟩ = some (.bool true) ∧ w'.cell? ⟨w.heap.size + 1, 1, none⟩ = some (.slice a' m' cap')) (first | exact ⟨G.c0, G.c1, G2.c0, G2.c1⟩ | exact ⟨(G.behind (bel_alloc _ _)).c0, (G.behind (bel_alloc _ _)).c1, (G2.behind (bel_alloc _ _)).c0, (G2.behind (bel_alloc _ _)).c1⟩ | exact ⟨(G.behind (bel_ad _ _)).c0, (G.behind (bel_ad _ _)).c1, (G2.behind (bel_ad _ _)).c0, (G2.behind (bel_ad _ _)).c1⟩ | exact ⟨((G.put (by simp <;> omega) _).put (by simp <;> omega) _).c0, ((G.put (by simp <;> omega) _).put (by simp <;> omega) _).c1, ((G2.put (by simp <;> omega) _).put (by simp <;> omega) _).c0, ((G2.put (by simp <;> omega) _).put (by simp <;> omega) _).c1⟩ | exact ⟨(((G.behind (bel_alloc _ _)).put (by simp <;> omega) _).put (by simp <;> omega) _).c0, (((G.behind (bel_alloc _ _)).put (by simp <;> omega) _).put (by simp <;> omega) _).c1, (((G2.behind (bel_alloc _ _)).put (by simp <;> omega) _).put (by simp <;> omega) _).c0, (((G2.behind (bel_alloc _ _)).put (by simp <;> omega) _).put (by simp <;> omega) _).c1⟩ | (refine ⟨?_, ?_, ?_, ?_⟩ <;> go_keep))
    (first
      | (have _ := B1; go_at_call 71; (with_reducible refine either_whole.mono ?_); rintro e w2 ⟨f, x, y, z, rfl, hf, b2⟩; have B2 : Below W0.drew.heap.size W0.drew w2 := (by first | exact below_both B1 b2 | exact below_both (below_both B1 (bel_alloc _ _)) b2); have z2 := B2.size; have hA := (by first | exact hA.behind b2 | exact (hA.behind (bel_alloc _ _)).behind b2 | exact (hA.behind (bel_ad _ _)).behind b2); have hC := (by first | exact hC.behind b2 | exact (hC.behind (bel_alloc _ _)).behind b2 | exact (hC.behind (bel_ad _ _)).behind b2); have G := (by first | exact G.behind b2 | exact (G.behind (bel_alloc _ _)).behind b2 | exact (G.behind (bel_ad _ _)).behind b2); have G2 := (by first | exact G2.behind b2 | exact (G2.behind (bel_alloc _ _)).behind b2 | exact (G2.behind (bel_ad _ _)).behind b2); have R := (by first | exact R.behind b2 | exact (R.behind (bel_alloc _ _)).behind b2 | exact (R.behind (bel_ad _ _)).behind b2); (first | (have F := F.behind b2; have F0 := F.c0; have F1 := F.c1; have F2 := F.f 0; have F3 := F.f 1) | (have F := (Bx.new w1 (.bool false) (.slice none 0 0)).behind b2; have F0 := F.c0; have F1 := F.c1; have F2 := F.f 0; have F3 := F.f 1) | skip); clear b2)
      | (go_at_call 23; (first | (with_reducible refine (cmp_num hA hC hi hj).mono ?_) | (with_reducible refine (cmp_num (hA.behind (bel_ad _ _)) (hC.behind (bel_ad _ _)) hi hj).mono ?_)); rintro e w1 ⟨rfl, b1⟩; have B1 : Below W0.drew.heap.size W0.drew w1 := (by first | exact below_both bz b1 | exact below_both (bel_ad _ _) b1); have z1 := B1.size; have hA := (by first | exact hA.behind b1 | exact (hA.behind (bel_alloc _ _)).behind b1 | exact (hA.behind (bel_ad _ _)).behind b1); have hC := (by first | exact hC.behind b1 | exact (hC.behind (bel_alloc _ _)).behind b1 | exact (hC.behind (bel_ad _ _)).behind b1); have G := (by first | exact G.behind b1 | exact (G.behind (bel_alloc _ _)).behind b1 | exact (G.behind (bel_ad _ _)).behind b1); have G2 := (by first | exact G2.behind b1 | exact (G2.behind (bel_alloc _ _)).behind b1 | exact (G2.behind (bel_ad _ _)).behind b1); have R := (by first | exact R.behind b1 | exact (R.behind (bel_alloc _ _)).behind b1 | exact (R.behind (bel_ad _ _)).behind b1); (first | (have F := (Bx.new W0 (.bool false) (.slice none 0 0)).drew.behind b1) | skip); clear b1))
  all_goals
    first
    | (have F : Bx _ (w1.heap.size) _ _ := F.set (.bool f) (.slice x y z); have hgz : w.heap.size + 3 ≤ w1.heap.size := by (try simp) <;> omega
       have BN := ((below_both B0 B2).setCell (p := ⟨w1.heap.size, 0, none⟩) (by show _ ≤ w1.heap.size; omega) (.bool f)).setCell (p := ⟨w1.heap.size, 1, none⟩) (by show _ ≤ w1.heap.size; omega) (.slice x y z); have G := (G.put (p := ⟨w1.heap.size, 0, none⟩) (by show _ ≠ w1.heap.size; omega) (.bool f)).put (p := ⟨w1.heap.size, 1, none⟩) (by show _ ≠ w1.heap.size; omega) (.slice x y z); have G2 := (G2.put (p := ⟨w1.heap.size, 0, none⟩) (by show _ ≠ w1.heap.size; omega) (.bool f)).put (p := ⟨w1.heap.size, 1, none⟩) (by show _ ≠ w1.heap.size; omega) (.slice x y z); have R := (R.put (p := ⟨w1.heap.size, 0, none⟩) (by show _ ≠ w1.heap.size; omega) (.bool f)).put (p := ⟨w1.heap.size, 1, none⟩) (by show _ ≠ w1.heap.size; omega) (.slice x y z)
       generalize ((w2.setCell ⟨w1.heap.size, 0, none⟩ (.bool f)).setCell ⟨w1.heap.size, 1, none⟩ (.slice x y z)) = Wn at F BN G G2 R ⊢; generalize w1.heap.size = g at F BN G G2 R hgz ⊢)
    | (have F : Bx _ (W0.heap.size) _ _ := F.set (.bool f) (.slice x y z); have hgz : w.heap.size + 3 ≤ W0.heap.size := by (try simp) <;> omega
       have BN := ((below_both B0 B2).setCell (p := ⟨W0.heap.size, 0, none⟩) (by show _ ≤ W0.heap.size; omega) (.bool f)).setCell (p := ⟨W0.heap.size, 1, none⟩) (by show _ ≤ W0.heap.size; omega) (.slice x y z); have G := (G.put (p := ⟨W0.heap.size, 0, none⟩) (by show _ ≠ W0.heap.size; omega) (.bool f)).put (p := ⟨W0.heap.size, 1, none⟩) (by show _ ≠ W0.heap.size; omega) (.slice x y z); have G2 := (G2.put (p := ⟨W0.heap.size, 0, none⟩) (by show _ ≠ W0.heap.size; omega) (.bool f)).put (p := ⟨W0.heap.size, 1, none⟩) (by show _ ≠ W0.heap.size; omega) (.slice x y z); have R := (R.put (p := ⟨W0.heap.size, 0, none⟩) (by show _ ≠ W0.heap.size; omega) (.bool f)).put (p := ⟨W0.heap.size, 1, none⟩) (by show _ ≠ W0.heap.size; omega) (.slice x y z)
       generalize ((w2.setCell ⟨W0.heap.size, 0, none⟩ (.bool f)).setCell ⟨W0.heap.size, 1, none⟩ (.slice x y z)) = Wn at F BN G G2 R ⊢; generalize W0.heap.size = g at F BN G G2 R hgz ⊢)
    | (have F := Bx.new w2 (.bool f) (.slice x y z); have BN := below_both (below_both B0 B2) (bel_alloc w2 (.cells #[.bool f, .slice x y z] 53)); have G := G.behind (bel_alloc w2 (.cells #[.bool f, .slice x y z] 53)); have G2 := G2.behind (bel_alloc w2 (.cells #[.bool f, .slice x y z] 53)); have R := R.behind (bel_alloc w2 (.cells #[.bool f, .slice x y z] 53)); have hgz : w.heap.size + 3 ≤ w2.heap.size := by omega
       generalize (w2.alloc (.cells #[.bool f, .slice x y z] 53)) = Wn at F BN G G2 R ⊢; generalize w2.heap.size = g at F BN G G2 R hgz ⊢)
    have hA := hAw.behind BN
    have hC := hCw.behind BN
    clear B2 B1 B0 bz hB
    have hgn : w.heap.size + 3 ≤ Wn.heap.size := Nat.le_trans hgz (Nat.le_of_lt F.lt)
    go_wp2
    have bd := (Below.refl (Wn).heap.size (Wn)).drew
    have hA := hA.behind bd
    have hC := hC.behind bd
    have F := F.behind bd
    have G := G.behind bd
    have G2 := G2.behind bd
    have R := R.behind bd
    have B4 := below_both BN bd
    clear bd
    have c0 := F.c0
    have c1 := F.c1
    have c2 := G.c0
    have c3 := G.c1
    have c4 := G2.c0
    have c5 := G2.c1
    go_region_held3 (fun w' => w'.cell? ⟨g, 0, none⟩ = some (.bool f) ∧ w'.cell? ⟨g, 1, none⟩ = some (.slice x y z) ∧ w'.cell? ⟨w.heap.size, 0, none⟩ = some (.bool false) ∧ w'.cell? ⟨w.heap.size, 1, none⟩ = some (.slice a m cap) ∧ w'.cell? ⟨w.heap.size + 1, 0, none⟩ = some (.bool true) ∧ w'.cell? ⟨w.heap.size + 1, 1, none⟩ = some (.slice a' m' cap')) (first | exact ⟨F.c0, F.c1, G.c0, G.c1, G2.c0, G2.c1⟩ | exact ⟨((F.put (by simp <;> omega) _).put (by simp <;> omega) _).c0, ((F.put (by simp <;> omega) _).put (by simp <;> omega) _).c1, ((G.put (by simp <;> omega) _).put (by simp <;> omega) _).c0, ((G.put (by simp <;> omega) _).put (by simp <;> omega) _).c1, ((G2.put (by simp <;> omega) _).put (by simp <;> omega) _).c0, ((G2.put (by simp <;> omega) _).put (by simp <;> omega) _).c1⟩ | (refine ⟨?_, ?_, ?_, ?_, ?_, ?_⟩ <;> go_keep))
      (first
        | (have _ := Bq1; go_at_call 70; (with_reducible refine (told_num nw).mono ?_); rintro e wq2 ⟨ta, tm, tc, rfl, nt, bq2⟩; have F := F.behind bq2; have G := G.behind bq2; have G2 := G2.behind bq2; have R := R.behind bq2; have Bq2 := below_both Bq1 bq2; clear bq2; have r0 := R.c0; have r1 := R.c1; have r2 := R.f 0; have r3 := R.f 1)
        | (go_at_call 19; (with_reducible refine (sub_num hA hC hi hj).mono ?_); rintro e wq1 ⟨v, rfl, u, nw, bq1⟩; have F := F.behind bq1; have G := G.behind bq1; have G2 := G2.behind bq1; have R := R.behind bq1; have Bq1 := below_both B4 bq1; clear bq1))
    have hz : wn false M + wn true N = wn f (dist M N) := by rw [hf.out]; exact (unlike_wn false M N).symm
    go_wp2
    exact bodyPost_ret (v := .agg #[.bool (decide (wn f (dist M N) < 0)), .slice ta tm tc]) (by simp [results, Try.results42, go_sem, r0, r1]) rfl (by rw [hz]; exact wend Bq2 (r := w.heap.size + 2) (by omega) (by show _ < Wn.heap.size; omega) nt (z := wn f (dist M N)) rfl)
end Go.Proofs.Ytppbifijgkcpjaa
