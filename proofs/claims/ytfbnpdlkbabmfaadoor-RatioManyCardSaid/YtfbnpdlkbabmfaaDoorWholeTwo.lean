/- whole's calls that choose: Add of unlike signs, Sub, Sign, Cmp, Of. -/
import Derived.Test.YtfbnpdlkbabmfaaDoorWhole
import Derived.Lib.Hide
import Derived.IntWalk
namespace Go.Proofs.YtfbnpdlkbabmfaaDoor
open Go.RowKit Go.Shelf
attribute [local go_sem ↓] Go.wp_at_zero Go.wp_at_succ
theorem Bx.set {W : World} {g : Nat} {x y : Value} (h : Bx W g x y) (x' y' : Value) : Bx ((W.setCell ⟨g, 0, none⟩ x').setCell ⟨g, 1, none⟩ y') g x' y' := by
  have hl := h.lt
  have e : W.heap[g]? = _ := h
  unfold Bx
  simp [World.setCell, World.heap, Array.getElem?_modify, e]
theorem unlike_wn (s : Bool) (M N : Nat) : wn (bif decide (0 ≤ cmpN M N) then s else !s) (dist M N) = wn s M + wn (!s) N := by
  rcases Nat.lt_or_ge M N with h | h
  · rw [cmpN_lt h]; cases s <;> simp [wn, dist] <;> omega
  · have h2 : 0 ≤ cmpN M N := by
      unfold cmpN; rw [if_neg (by omega)]; split <;> omega
    rw [decide_eq_true h2]; cases s <;> simp [wn, dist] <;> omega
theorem bel_ad (W : World) (o : Obj) : Below W.drew.heap.size W.drew (W.alloc o).drew := bel_alloc W.drew o

theorem either_whole_true {s t : Bool} {a a' : Option Addr} {m cap m' cap' : Nat} {w : World} :
    Calls Tryd.prog 45 #[.bool true, .agg #[.bool s, .slice a m cap], .agg #[.bool t, .slice a' m' cap']] w fun e W' => ∃ x y z, e = .returned (.agg #[.bool s, .slice x y z]) ∧ Below w.heap.size w W' := by
  go_enter Tryd.func45, Tryd.ntmps45
  go_wp2
  exact bodyPost_ret (v := .agg #[.bool s, .slice a m cap]) (by simp [results, Tryd.results45, go_sem]) rfl ⟨_, _, _, rfl, (((Below.refl _ _).alloc (Nat.le_refl _) _).alloc (by simp) _).alloc (by simp <;> omega) _⟩
theorem either_whole_false {s t : Bool} {a a' : Option Addr} {m cap m' cap' : Nat} {w : World} :
    Calls Tryd.prog 45 #[.bool false, .agg #[.bool s, .slice a m cap], .agg #[.bool t, .slice a' m' cap']] w fun e W' => ∃ x y z, e = .returned (.agg #[.bool t, .slice x y z]) ∧ Below w.heap.size w W' := by
  go_enter Tryd.func45, Tryd.ntmps45
  go_wp2
  exact bodyPost_ret (v := .agg #[.bool t, .slice a' m' cap']) (by simp [results, Tryd.results45, go_sem]) rfl ⟨_, _, _, rfl, (((Below.refl _ _).alloc (Nat.le_refl _) _).alloc (by simp) _).alloc (by simp <;> omega) _⟩
theorem either_whole {c s t : Bool} {a a' : Option Addr} {m cap m' cap' : Nat} {w : World} :
    Calls Tryd.prog 45 #[.bool c, .agg #[.bool s, .slice a m cap], .agg #[.bool t, .slice a' m' cap']] w fun e W' => ∃ f x y z, e = .returned (.agg #[.bool f, .slice x y z]) ∧ Hid (f = bif c then s else t) ∧ Below w.heap.size w W' := by
  cases c
  · exact either_whole_false.mono fun e W' ⟨x, y, z, h1, h2⟩ => ⟨_, x, y, z, h1, Lib.hid rfl, h2⟩
  · exact either_whole_true.mono fun e W' ⟨x, y, z, h1, h2⟩ => ⟨_, x, y, z, h1, Lib.hid rfl, h2⟩
set_option maxHeartbeats 4000000 in
set_option maxRecDepth 100000 in
theorem wadd_unlike_true {a a' : Option Addr} {m cap m' cap' : Nat} {M i N j : Nat} {w : World} (hA : Num w (.slice a m cap) M i) (hC : Num w (.slice a' m' cap') N j) (hi : i ≤ 17592186044416) (hj : j ≤ 17592186044416) :
    Calls Tryd.prog 20 #[.agg #[.bool true, .slice a m cap], .agg #[.bool false, .slice a' m' cap']] w fun e W' => ∃ b a m c, e = .returned (.agg #[.bool b, .slice a m c]) ∧ WNew w.heap.size W' (.agg #[.bool b, .slice a m c]) (wn true M + wn false N) ∧ Below w.heap.size w W' := by
  have hAw := hA
  have hCw := hC
  go_enter Tryd.func20, Tryd.ntmps20
  go_wp2
  have hb := boxes3 w (.bool true) (.slice a m cap) (.bool false) (.slice a' m' cap') (.bool false) (.slice none 0 0)
  generalize ((w.alloc (.cells #[.bool true, .slice a m cap] 24)).alloc (.cells #[.bool false, .slice a' m' cap'] 24)).alloc (.cells #[.bool false, .slice none 0 0] 24) = W0 at hb ⊢
  obtain ⟨hB, G, G2, R, hsz⟩ := hb
  have hA := hA.behind hB
  have hC := hC.behind hB
  have bd := (Below.refl (W0).heap.size (W0)).drew
  have hA := hA.behind bd
  have hC := hC.behind bd
  have G := G.behind bd
  have G2 := G2.behind bd
  have R := R.behind bd
  have B0 := below_both hB bd
  clear bd
  have bz := Below.refl W0.drew.heap.size W0.drew
  have hsd : w.heap.size + 3 ≤ W0.drew.heap.size := hsz
  have c0 := G.c0
  have c1 := G.c1
  have c2 := G2.c0
  have c3 := G2.c1
  have n0 := World.new_ne _ _ c0
  have n1 := World.new_ne _ _ c2
  go_region_held3 (fun w' => w'.cell? ⟨w.heap.size, 0, none⟩ = some (.bool true) ∧ w'.cell? ⟨w.heap.size, 1, none⟩ = some (.slice a m cap) ∧ w'.cell? ⟨w.heap.size + 1, 0, none⟩ = some (.bool false) ∧ w'.cell? ⟨w.heap.size + 1, 1, none⟩ = some (.slice a' m' cap')) (first | exact ⟨G.c0, G.c1, G2.c0, G2.c1⟩ | exact ⟨(G.behind (bel_alloc _ _)).c0, (G.behind (bel_alloc _ _)).c1, (G2.behind (bel_alloc _ _)).c0, (G2.behind (bel_alloc _ _)).c1⟩ | exact ⟨(G.behind (bel_ad _ _)).c0, (G.behind (bel_ad _ _)).c1, (G2.behind (bel_ad _ _)).c0, (G2.behind (bel_ad _ _)).c1⟩ | exact ⟨((G.put (by simp <;> omega) _).put (by simp <;> omega) _).c0, ((G.put (by simp <;> omega) _).put (by simp <;> omega) _).c1, ((G2.put (by simp <;> omega) _).put (by simp <;> omega) _).c0, ((G2.put (by simp <;> omega) _).put (by simp <;> omega) _).c1⟩ | exact ⟨(((G.behind (bel_alloc _ _)).put (by simp <;> omega) _).put (by simp <;> omega) _).c0, (((G.behind (bel_alloc _ _)).put (by simp <;> omega) _).put (by simp <;> omega) _).c1, (((G2.behind (bel_alloc _ _)).put (by simp <;> omega) _).put (by simp <;> omega) _).c0, (((G2.behind (bel_alloc _ _)).put (by simp <;> omega) _).put (by simp <;> omega) _).c1⟩ | (refine ⟨?_, ?_, ?_, ?_⟩ <;> go_keep))
    (first
      | (have _ := B1; go_at_call 45; (with_reducible refine either_whole.mono ?_); rintro e w2 ⟨f, x, y, z, rfl, hf, b2⟩; have B2 : Below W0.drew.heap.size W0.drew w2 := (by first | exact below_both B1 b2 | exact below_both (below_both B1 (bel_alloc _ _)) b2); have z2 := B2.size; have hA := (by first | exact hA.behind b2 | exact (hA.behind (bel_alloc _ _)).behind b2 | exact (hA.behind (bel_ad _ _)).behind b2); have hC := (by first | exact hC.behind b2 | exact (hC.behind (bel_alloc _ _)).behind b2 | exact (hC.behind (bel_ad _ _)).behind b2); have G := (by first | exact G.behind b2 | exact (G.behind (bel_alloc _ _)).behind b2 | exact (G.behind (bel_ad _ _)).behind b2); have G2 := (by first | exact G2.behind b2 | exact (G2.behind (bel_alloc _ _)).behind b2 | exact (G2.behind (bel_ad _ _)).behind b2); have R := (by first | exact R.behind b2 | exact (R.behind (bel_alloc _ _)).behind b2 | exact (R.behind (bel_ad _ _)).behind b2); (first | (have F := F.behind b2; have F0 := F.c0; have F1 := F.c1; have F2 := F.f 0; have F3 := F.f 1) | (have F := (Bx.new w1 (.bool false) (.slice none 0 0)).behind b2; have F0 := F.c0; have F1 := F.c1; have F2 := F.f 0; have F3 := F.f 1) | skip); clear b2)
      | (go_at_call 39; (first | (with_reducible refine (cmp_num hA hC hi hj).mono ?_) | (with_reducible refine (cmp_num (hA.behind (bel_ad _ _)) (hC.behind (bel_ad _ _)) hi hj).mono ?_)); rintro e w1 ⟨rfl, b1⟩; have B1 : Below W0.drew.heap.size W0.drew w1 := (by first | exact below_both bz b1 | exact below_both (bel_ad _ _) b1); have z1 := B1.size; have hA := (by first | exact hA.behind b1 | exact (hA.behind (bel_alloc _ _)).behind b1 | exact (hA.behind (bel_ad _ _)).behind b1); have hC := (by first | exact hC.behind b1 | exact (hC.behind (bel_alloc _ _)).behind b1 | exact (hC.behind (bel_ad _ _)).behind b1); have G := (by first | exact G.behind b1 | exact (G.behind (bel_alloc _ _)).behind b1 | exact (G.behind (bel_ad _ _)).behind b1); have G2 := (by first | exact G2.behind b1 | exact (G2.behind (bel_alloc _ _)).behind b1 | exact (G2.behind (bel_ad _ _)).behind b1); have R := (by first | exact R.behind b1 | exact (R.behind (bel_alloc _ _)).behind b1 | exact (R.behind (bel_ad _ _)).behind b1); (first | (have F := (Bx.new W0 (.bool false) (.slice none 0 0)).drew.behind b1) | skip); clear b1))
  all_goals
    first
    | (have F : Bx _ (w1.heap.size) _ _ := F.set (.bool f) (.slice x y z); have hgz : w.heap.size + 3 ≤ w1.heap.size := by (try simp) <;> omega
       have BN := ((below_both B0 B2).setCell (p := ⟨w1.heap.size, 0, none⟩) (by show _ ≤ w1.heap.size; omega) (.bool f)).setCell (p := ⟨w1.heap.size, 1, none⟩) (by show _ ≤ w1.heap.size; omega) (.slice x y z); have G := (G.put (p := ⟨w1.heap.size, 0, none⟩) (by show _ ≠ w1.heap.size; omega) (.bool f)).put (p := ⟨w1.heap.size, 1, none⟩) (by show _ ≠ w1.heap.size; omega) (.slice x y z); have G2 := (G2.put (p := ⟨w1.heap.size, 0, none⟩) (by show _ ≠ w1.heap.size; omega) (.bool f)).put (p := ⟨w1.heap.size, 1, none⟩) (by show _ ≠ w1.heap.size; omega) (.slice x y z); have R := (R.put (p := ⟨w1.heap.size, 0, none⟩) (by show _ ≠ w1.heap.size; omega) (.bool f)).put (p := ⟨w1.heap.size, 1, none⟩) (by show _ ≠ w1.heap.size; omega) (.slice x y z)
       generalize ((w2.setCell ⟨w1.heap.size, 0, none⟩ (.bool f)).setCell ⟨w1.heap.size, 1, none⟩ (.slice x y z)) = Wn at F BN G G2 R ⊢; generalize w1.heap.size = g at F BN G G2 R hgz ⊢)
    | (have F : Bx _ (W0.heap.size) _ _ := F.set (.bool f) (.slice x y z); have hgz : w.heap.size + 3 ≤ W0.heap.size := by (try simp) <;> omega
       have BN := ((below_both B0 B2).setCell (p := ⟨W0.heap.size, 0, none⟩) (by show _ ≤ W0.heap.size; omega) (.bool f)).setCell (p := ⟨W0.heap.size, 1, none⟩) (by show _ ≤ W0.heap.size; omega) (.slice x y z); have G := (G.put (p := ⟨W0.heap.size, 0, none⟩) (by show _ ≠ W0.heap.size; omega) (.bool f)).put (p := ⟨W0.heap.size, 1, none⟩) (by show _ ≠ W0.heap.size; omega) (.slice x y z); have G2 := (G2.put (p := ⟨W0.heap.size, 0, none⟩) (by show _ ≠ W0.heap.size; omega) (.bool f)).put (p := ⟨W0.heap.size, 1, none⟩) (by show _ ≠ W0.heap.size; omega) (.slice x y z); have R := (R.put (p := ⟨W0.heap.size, 0, none⟩) (by show _ ≠ W0.heap.size; omega) (.bool f)).put (p := ⟨W0.heap.size, 1, none⟩) (by show _ ≠ W0.heap.size; omega) (.slice x y z)
       generalize ((w2.setCell ⟨W0.heap.size, 0, none⟩ (.bool f)).setCell ⟨W0.heap.size, 1, none⟩ (.slice x y z)) = Wn at F BN G G2 R ⊢; generalize W0.heap.size = g at F BN G G2 R hgz ⊢)
    | (have F := Bx.new w2 (.bool f) (.slice x y z); have BN := below_both (below_both B0 B2) (bel_alloc w2 (.cells #[.bool f, .slice x y z] 24)); have G := G.behind (bel_alloc w2 (.cells #[.bool f, .slice x y z] 24)); have G2 := G2.behind (bel_alloc w2 (.cells #[.bool f, .slice x y z] 24)); have R := R.behind (bel_alloc w2 (.cells #[.bool f, .slice x y z] 24)); have hgz : w.heap.size + 3 ≤ w2.heap.size := by omega
       generalize (w2.alloc (.cells #[.bool f, .slice x y z] 24)) = Wn at F BN G G2 R ⊢; generalize w2.heap.size = g at F BN G G2 R hgz ⊢)
    have hA := hAw.behind BN
    have hC := hCw.behind BN
    clear B2 B1 B0 bz hB
    have hgn : w.heap.size + 3 ≤ Wn.heap.size := Nat.le_trans hgz (Nat.le_of_lt F.lt)
    go_wp2
    have bd := (Below.refl (Wn).heap.size (Wn)).drew
    have hA := hA.behind bd
    have hC := hC.behind bd
    have F := F.behind bd
    have G := G.behind bd
    have G2 := G2.behind bd
    have R := R.behind bd
    have B4 := below_both BN bd
    clear bd
    have c0 := F.c0
    have c1 := F.c1
    have c2 := G.c0
    have c3 := G.c1
    have c4 := G2.c0
    have c5 := G2.c1
    go_region_held3 (fun w' => w'.cell? ⟨g, 0, none⟩ = some (.bool f) ∧ w'.cell? ⟨g, 1, none⟩ = some (.slice x y z) ∧ w'.cell? ⟨w.heap.size, 0, none⟩ = some (.bool true) ∧ w'.cell? ⟨w.heap.size, 1, none⟩ = some (.slice a m cap) ∧ w'.cell? ⟨w.heap.size + 1, 0, none⟩ = some (.bool false) ∧ w'.cell? ⟨w.heap.size + 1, 1, none⟩ = some (.slice a' m' cap')) (first | exact ⟨F.c0, F.c1, G.c0, G.c1, G2.c0, G2.c1⟩ | exact ⟨((F.put (by simp <;> omega) _).put (by simp <;> omega) _).c0, ((F.put (by simp <;> omega) _).put (by simp <;> omega) _).c1, ((G.put (by simp <;> omega) _).put (by simp <;> omega) _).c0, ((G.put (by simp <;> omega) _).put (by simp <;> omega) _).c1, ((G2.put (by simp <;> omega) _).put (by simp <;> omega) _).c0, ((G2.put (by simp <;> omega) _).put (by simp <;> omega) _).c1⟩ | (refine ⟨?_, ?_, ?_, ?_, ?_, ?_⟩ <;> go_keep))
      (first
        | (have _ := Bq1; go_at_call 34; (with_reducible refine (told_num nw).mono ?_); rintro e wq2 ⟨ta, tm, tc, rfl, nt, bq2⟩; have F := F.behind bq2; have G := G.behind bq2; have G2 := G2.behind bq2; have R := R.behind bq2; have Bq2 := below_both Bq1 bq2; clear bq2; have r0 := R.c0; have r1 := R.c1; have r2 := R.f 0; have r3 := R.f 1)
        | (go_at_call 46; (with_reducible refine (sub_num hA hC hi hj).mono ?_); rintro e wq1 ⟨v, rfl, u, nw, bq1⟩; have F := F.behind bq1; have G := G.behind bq1; have G2 := G2.behind bq1; have R := R.behind bq1; have Bq1 := below_both B4 bq1; clear bq1))
    have hz : wn true M + wn false N = wn f (dist M N) := by rw [hf.out]; exact (unlike_wn true M N).symm
    go_wp2
    exact bodyPost_ret (v := .agg #[.bool (decide (wn f (dist M N) < 0)), .slice ta tm tc]) (by simp [results, Tryd.results20, go_sem, r0, r1]) rfl (by rw [hz]; exact wend Bq2 (r := w.heap.size + 2) (by omega) (by show _ < Wn.heap.size; omega) nt (z := wn f (dist M N)) rfl)
set_option maxHeartbeats 4000000 in
set_option maxRecDepth 100000 in
theorem wadd_unlike_false {a a' : Option Addr} {m cap m' cap' : Nat} {M i N j : Nat} {w : World} (hA : Num w (.slice a m cap) M i) (hC : Num w (.slice a' m' cap') N j) (hi : i ≤ 17592186044416) (hj : j ≤ 17592186044416) :
    Calls Tryd.prog 20 #[.agg #[.bool false, .slice a m cap], .agg #[.bool true, .slice a' m' cap']] w fun e W' => ∃ b a m c, e = .returned (.agg #[.bool b, .slice a m c]) ∧ WNew w.heap.size W' (.agg #[.bool b, .slice a m c]) (wn false M + wn true N) ∧ Below w.heap.size w W' := by
  have hAw := hA
  have hCw := hC
  go_enter Tryd.func20, Tryd.ntmps20
  go_wp2
  have hb := boxes3 w (.bool false) (.slice a m cap) (.bool true) (.slice a' m' cap') (.bool false) (.slice none 0 0)
  generalize ((w.alloc (.cells #[.bool false, .slice a m cap] 24)).alloc (.cells #[.bool true, .slice a' m' cap'] 24)).alloc (.cells #[.bool false, .slice none 0 0] 24) = W0 at hb ⊢
  obtain ⟨hB, G, G2, R, hsz⟩ := hb
  have hA := hA.behind hB
  have hC := hC.behind hB
  have bd := (Below.refl (W0).heap.size (W0)).drew
  have hA := hA.behind bd
  have hC := hC.behind bd
  have G := G.behind bd
  have G2 := G2.behind bd
  have R := R.behind bd
  have B0 := below_both hB bd
  clear bd
  have bz := Below.refl W0.drew.heap.size W0.drew
  have hsd : w.heap.size + 3 ≤ W0.drew.heap.size := hsz
  have c0 := G.c0
  have c1 := G.c1
  have c2 := G2.c0
  have c3 := G2.c1
  have n0 := World.new_ne _ _ c0
  have n1 := World.new_ne _ _ c2
  go_region_held3 (fun w' => w'.cell? ⟨w.heap.size, 0, none⟩ = some (.bool false) ∧ w'.cell? ⟨w.heap.size, 1, none⟩ = some (.slice a m cap) ∧ w'.cell? ⟨w.heap.size + 1, 0, none⟩ = some (.bool true) ∧ w'.cell? ⟨w.heap.size + 1, 1, none⟩ = some (.slice a' m' cap')) (first | exact ⟨G.c0, G.c1, G2.c0, G2.c1⟩ | exact ⟨(G.behind (bel_alloc _ _)).c0, (G.behind (bel_alloc _ _)).c1, (G2.behind (bel_alloc _ _)).c0, (G2.behind (bel_alloc _ _)).c1⟩ | exact ⟨(G.behind (bel_ad _ _)).c0, (G.behind (bel_ad _ _)).c1, (G2.behind (bel_ad _ _)).c0, (G2.behind (bel_ad _ _)).c1⟩ | exact ⟨((G.put (by simp <;> omega) _).put (by simp <;> omega) _).c0, ((G.put (by simp <;> omega) _).put (by simp <;> omega) _).c1, ((G2.put (by simp <;> omega) _).put (by simp <;> omega) _).c0, ((G2.put (by simp <;> omega) _).put (by simp <;> omega) _).c1⟩ | exact ⟨(((G.behind (bel_alloc _ _)).put (by simp <;> omega) _).put (by simp <;> omega) _).c0, (((G.behind (bel_alloc _ _)).put (by simp <;> omega) _).put (by simp <;> omega) _).c1, (((G2.behind (bel_alloc _ _)).put (by simp <;> omega) _).put (by simp <;> omega) _).c0, (((G2.behind (bel_alloc _ _)).put (by simp <;> omega) _).put (by simp <;> omega) _).c1⟩ | (refine ⟨?_, ?_, ?_, ?_⟩ <;> go_keep))
    (first
      | (have _ := B1; go_at_call 45; (with_reducible refine either_whole.mono ?_); rintro e w2 ⟨f, x, y, z, rfl, hf, b2⟩; have B2 : Below W0.drew.heap.size W0.drew w2 := (by first | exact below_both B1 b2 | exact below_both (below_both B1 (bel_alloc _ _)) b2); have z2 := B2.size; have hA := (by first | exact hA.behind b2 | exact (hA.behind (bel_alloc _ _)).behind b2 | exact (hA.behind (bel_ad _ _)).behind b2); have hC := (by first | exact hC.behind b2 | exact (hC.behind (bel_alloc _ _)).behind b2 | exact (hC.behind (bel_ad _ _)).behind b2); have G := (by first | exact G.behind b2 | exact (G.behind (bel_alloc _ _)).behind b2 | exact (G.behind (bel_ad _ _)).behind b2); have G2 := (by first | exact G2.behind b2 | exact (G2.behind (bel_alloc _ _)).behind b2 | exact (G2.behind (bel_ad _ _)).behind b2); have R := (by first | exact R.behind b2 | exact (R.behind (bel_alloc _ _)).behind b2 | exact (R.behind (bel_ad _ _)).behind b2); (first | (have F := F.behind b2; have F0 := F.c0; have F1 := F.c1; have F2 := F.f 0; have F3 := F.f 1) | (have F := (Bx.new w1 (.bool false) (.slice none 0 0)).behind b2; have F0 := F.c0; have F1 := F.c1; have F2 := F.f 0; have F3 := F.f 1) | skip); clear b2)
      | (go_at_call 39; (first | (with_reducible refine (cmp_num hA hC hi hj).mono ?_) | (with_reducible refine (cmp_num (hA.behind (bel_ad _ _)) (hC.behind (bel_ad _ _)) hi hj).mono ?_)); rintro e w1 ⟨rfl, b1⟩; have B1 : Below W0.drew.heap.size W0.drew w1 := (by first | exact below_both bz b1 | exact below_both (bel_ad _ _) b1); have z1 := B1.size; have hA := (by first | exact hA.behind b1 | exact (hA.behind (bel_alloc _ _)).behind b1 | exact (hA.behind (bel_ad _ _)).behind b1); have hC := (by first | exact hC.behind b1 | exact (hC.behind (bel_alloc _ _)).behind b1 | exact (hC.behind (bel_ad _ _)).behind b1); have G := (by first | exact G.behind b1 | exact (G.behind (bel_alloc _ _)).behind b1 | exact (G.behind (bel_ad _ _)).behind b1); have G2 := (by first | exact G2.behind b1 | exact (G2.behind (bel_alloc _ _)).behind b1 | exact (G2.behind (bel_ad _ _)).behind b1); have R := (by first | exact R.behind b1 | exact (R.behind (bel_alloc _ _)).behind b1 | exact (R.behind (bel_ad _ _)).behind b1); (first | (have F := (Bx.new W0 (.bool false) (.slice none 0 0)).drew.behind b1) | skip); clear b1))
  all_goals
    first
    | (have F : Bx _ (w1.heap.size) _ _ := F.set (.bool f) (.slice x y z); have hgz : w.heap.size + 3 ≤ w1.heap.size := by (try simp) <;> omega
       have BN := ((below_both B0 B2).setCell (p := ⟨w1.heap.size, 0, none⟩) (by show _ ≤ w1.heap.size; omega) (.bool f)).setCell (p := ⟨w1.heap.size, 1, none⟩) (by show _ ≤ w1.heap.size; omega) (.slice x y z); have G := (G.put (p := ⟨w1.heap.size, 0, none⟩) (by show _ ≠ w1.heap.size; omega) (.bool f)).put (p := ⟨w1.heap.size, 1, none⟩) (by show _ ≠ w1.heap.size; omega) (.slice x y z); have G2 := (G2.put (p := ⟨w1.heap.size, 0, none⟩) (by show _ ≠ w1.heap.size; omega) (.bool f)).put (p := ⟨w1.heap.size, 1, none⟩) (by show _ ≠ w1.heap.size; omega) (.slice x y z); have R := (R.put (p := ⟨w1.heap.size, 0, none⟩) (by show _ ≠ w1.heap.size; omega) (.bool f)).put (p := ⟨w1.heap.size, 1, none⟩) (by show _ ≠ w1.heap.size; omega) (.slice x y z)
       generalize ((w2.setCell ⟨w1.heap.size, 0, none⟩ (.bool f)).setCell ⟨w1.heap.size, 1, none⟩ (.slice x y z)) = Wn at F BN G G2 R ⊢; generalize w1.heap.size = g at F BN G G2 R hgz ⊢)
    | (have F : Bx _ (W0.heap.size) _ _ := F.set (.bool f) (.slice x y z); have hgz : w.heap.size + 3 ≤ W0.heap.size := by (try simp) <;> omega
       have BN := ((below_both B0 B2).setCell (p := ⟨W0.heap.size, 0, none⟩) (by show _ ≤ W0.heap.size; omega) (.bool f)).setCell (p := ⟨W0.heap.size, 1, none⟩) (by show _ ≤ W0.heap.size; omega) (.slice x y z); have G := (G.put (p := ⟨W0.heap.size, 0, none⟩) (by show _ ≠ W0.heap.size; omega) (.bool f)).put (p := ⟨W0.heap.size, 1, none⟩) (by show _ ≠ W0.heap.size; omega) (.slice x y z); have G2 := (G2.put (p := ⟨W0.heap.size, 0, none⟩) (by show _ ≠ W0.heap.size; omega) (.bool f)).put (p := ⟨W0.heap.size, 1, none⟩) (by show _ ≠ W0.heap.size; omega) (.slice x y z); have R := (R.put (p := ⟨W0.heap.size, 0, none⟩) (by show _ ≠ W0.heap.size; omega) (.bool f)).put (p := ⟨W0.heap.size, 1, none⟩) (by show _ ≠ W0.heap.size; omega) (.slice x y z)
       generalize ((w2.setCell ⟨W0.heap.size, 0, none⟩ (.bool f)).setCell ⟨W0.heap.size, 1, none⟩ (.slice x y z)) = Wn at F BN G G2 R ⊢; generalize W0.heap.size = g at F BN G G2 R hgz ⊢)
    | (have F := Bx.new w2 (.bool f) (.slice x y z); have BN := below_both (below_both B0 B2) (bel_alloc w2 (.cells #[.bool f, .slice x y z] 24)); have G := G.behind (bel_alloc w2 (.cells #[.bool f, .slice x y z] 24)); have G2 := G2.behind (bel_alloc w2 (.cells #[.bool f, .slice x y z] 24)); have R := R.behind (bel_alloc w2 (.cells #[.bool f, .slice x y z] 24)); have hgz : w.heap.size + 3 ≤ w2.heap.size := by omega
       generalize (w2.alloc (.cells #[.bool f, .slice x y z] 24)) = Wn at F BN G G2 R ⊢; generalize w2.heap.size = g at F BN G G2 R hgz ⊢)
    have hA := hAw.behind BN
    have hC := hCw.behind BN
    clear B2 B1 B0 bz hB
    have hgn : w.heap.size + 3 ≤ Wn.heap.size := Nat.le_trans hgz (Nat.le_of_lt F.lt)
    go_wp2
    have bd := (Below.refl (Wn).heap.size (Wn)).drew
    have hA := hA.behind bd
    have hC := hC.behind bd
    have F := F.behind bd
    have G := G.behind bd
    have G2 := G2.behind bd
    have R := R.behind bd
    have B4 := below_both BN bd
    clear bd
    have c0 := F.c0
    have c1 := F.c1
    have c2 := G.c0
    have c3 := G.c1
    have c4 := G2.c0
    have c5 := G2.c1
    go_region_held3 (fun w' => w'.cell? ⟨g, 0, none⟩ = some (.bool f) ∧ w'.cell? ⟨g, 1, none⟩ = some (.slice x y z) ∧ w'.cell? ⟨w.heap.size, 0, none⟩ = some (.bool false) ∧ w'.cell? ⟨w.heap.size, 1, none⟩ = some (.slice a m cap) ∧ w'.cell? ⟨w.heap.size + 1, 0, none⟩ = some (.bool true) ∧ w'.cell? ⟨w.heap.size + 1, 1, none⟩ = some (.slice a' m' cap')) (first | exact ⟨F.c0, F.c1, G.c0, G.c1, G2.c0, G2.c1⟩ | exact ⟨((F.put (by simp <;> omega) _).put (by simp <;> omega) _).c0, ((F.put (by simp <;> omega) _).put (by simp <;> omega) _).c1, ((G.put (by simp <;> omega) _).put (by simp <;> omega) _).c0, ((G.put (by simp <;> omega) _).put (by simp <;> omega) _).c1, ((G2.put (by simp <;> omega) _).put (by simp <;> omega) _).c0, ((G2.put (by simp <;> omega) _).put (by simp <;> omega) _).c1⟩ | (refine ⟨?_, ?_, ?_, ?_, ?_, ?_⟩ <;> go_keep))
      (first
        | (have _ := Bq1; go_at_call 34; (with_reducible refine (told_num nw).mono ?_); rintro e wq2 ⟨ta, tm, tc, rfl, nt, bq2⟩; have F := F.behind bq2; have G := G.behind bq2; have G2 := G2.behind bq2; have R := R.behind bq2; have Bq2 := below_both Bq1 bq2; clear bq2; have r0 := R.c0; have r1 := R.c1; have r2 := R.f 0; have r3 := R.f 1)
        | (go_at_call 46; (with_reducible refine (sub_num hA hC hi hj).mono ?_); rintro e wq1 ⟨v, rfl, u, nw, bq1⟩; have F := F.behind bq1; have G := G.behind bq1; have G2 := G2.behind bq1; have R := R.behind bq1; have Bq1 := below_both B4 bq1; clear bq1))
    have hz : wn false M + wn true N = wn f (dist M N) := by rw [hf.out]; exact (unlike_wn false M N).symm
    go_wp2
    exact bodyPost_ret (v := .agg #[.bool (decide (wn f (dist M N) < 0)), .slice ta tm tc]) (by simp [results, Tryd.results20, go_sem, r0, r1]) rfl (by rw [hz]; exact wend Bq2 (r := w.heap.size + 2) (by omega) (by show _ < Wn.heap.size; omega) nt (z := wn f (dist M N)) rfl)
end Go.Proofs.YtfbnpdlkbabmfaaDoor

/- whole's Add, Sub, Sign, Cmp, Of over whole numbers. -/
namespace Go.Proofs.YtfbnpdlkbabmfaaDoor
open Go.RowKit Go.Shelf
attribute [local go_sem ↓] Go.wp_at_zero Go.wp_at_succ

/-- v is told as the whole number z, in at most k words -/
def Wv (w : World) (s : Bool) (a : Option Addr) (m cap : Nat) (z : Int) (k : Nat) : Prop := ∃ M, Num w (.slice a m cap) M k ∧ z = wn s M
theorem Wv.behind {w w' : World} {s : Bool} {a : Option Addr} {m cap : Nat} {z : Int} {k : Nat} (h : Wv w s a m cap z k) (hb : Below w.heap.size w w') : Wv w' s a m cap z k := by
  obtain ⟨M, h1, h2⟩ := h
  exact ⟨M, h1.behind hb, h2⟩
theorem wn_not (s : Bool) (M : Nat) : wn (!s) M = -wn s M := by cases s <;> simp [wn]
theorem wn_mul (s t : Bool) (M N : Nat) : wn (!s == t) (M * N) = wn s M * wn t N := by cases s <;> cases t <;> simp [wn, Int.neg_mul, Int.mul_neg]
theorem WNew.wv {n k : Nat} {w : World} {s : Bool} {a : Option Addr} {m cap : Nat} {z : Int} (h : WNew n w (.agg #[.bool s, .slice a m cap]) z) (hz : z.natAbs < 18446744073709551616 ^ k) : Wv w s a m cap z k := by
  obtain ⟨u, h1, h2⟩ := h
  simp only [Value.agg.injEq, Array.mk.injEq, List.cons.injEq, Value.bool.injEq, and_true] at h1
  obtain ⟨rfl, rfl⟩ := h1
  refine ⟨_, h2.num hz, ?_⟩
  unfold wn
  by_cases h : z < 0 <;> simp [h] <;> omega
theorem Wv.lt {w : World} {s : Bool} {a : Option Addr} {m cap : Nat} {z : Int} {k : Nat} (h : Wv w s a m cap z k) : z.natAbs < 18446744073709551616 ^ k := by
  obtain ⟨M, h2, rfl⟩ := h
  rw [wn_abs]; exact h2.lt
def WPost (w : World) (z : Int) (k : Nat) (e : Ending) (W' : World) : Prop := ∃ b a m c, e = .returned (.agg #[.bool b, .slice a m c]) ∧ Wv W' b a m c z k ∧ WNew w.heap.size W' (.agg #[.bool b, .slice a m c]) z ∧ Below w.heap.size w W'
theorem WPost.mk {w : World} {z : Int} {k : Nat} {e : Ending} {W' : World} (hz : z.natAbs < 18446744073709551616 ^ k) (h : ∃ b a m c, e = .returned (.agg #[.bool b, .slice a m c]) ∧ WNew w.heap.size W' (.agg #[.bool b, .slice a m c]) z ∧ Below w.heap.size w W') : WPost w z k e W' := by
  obtain ⟨b, a, m, c, h1, h2, h3⟩ := h
  exact ⟨b, a, m, c, h1, h2.wv hz, h2, h3⟩
theorem pow_max_lt {M N i j : Nat} (hM : M < 18446744073709551616 ^ i) (hN : N < 18446744073709551616 ^ j) : M + N < 18446744073709551616 ^ (max i j + 1) := by
  have h1 : 18446744073709551616 ^ i ≤ 18446744073709551616 ^ (max i j) := Nat.pow_le_pow_right (by decide) (by omega)
  have h2 : 18446744073709551616 ^ j ≤ 18446744073709551616 ^ (max i j) := Nat.pow_le_pow_right (by decide) (by omega)
  rw [Nat.pow_succ]
  omega
section
variable {s t : Bool} {a a' : Option Addr} {m cap m' cap' : Nat} {x y : Int} {i j : Nat} {w : World}
theorem zadd (hA : Wv w s a m cap x i) (hB : Wv w t a' m' cap' y j) (hi : i ≤ 17592186044416) (hj : j ≤ 17592186044416) :
    Calls Tryd.prog 20 #[.agg #[.bool s, .slice a m cap], .agg #[.bool t, .slice a' m' cap']] w (WPost w (x + y) (max i j + 1)) := by
  have hl : (x + y).natAbs < 18446744073709551616 ^ (max i j + 1) := by have := pow_max_lt hA.lt hB.lt; omega
  obtain ⟨M, h1, rfl⟩ := hA
  obtain ⟨N, h2, rfl⟩ := hB
  cases s <;> cases t
  · exact (wadd_same_false h1 h2 hi hj).mono fun e W' h => WPost.mk hl (by rw [show wn false M + wn false N = wn false (M + N) by simp [wn]]; exact h)
  · exact (wadd_unlike_false h1 h2 hi hj).mono fun e W' h => WPost.mk hl h
  · exact (wadd_unlike_true h1 h2 hi hj).mono fun e W' h => WPost.mk hl h
  · exact (wadd_same_true h1 h2 hi hj).mono fun e W' h => WPost.mk hl (by rw [show wn true M + wn true N = wn true (M + N) by simp [wn]; omega]; exact h)
theorem zmul (hA : Wv w s a m cap x i) (hB : Wv w t a' m' cap' y j) (hij : i + j ≤ 17592186044416) :
    Calls Tryd.prog 16 #[.agg #[.bool s, .slice a m cap], .agg #[.bool t, .slice a' m' cap']] w (WPost w (x * y) (i + j)) := by
  have hl : (x * y).natAbs < 18446744073709551616 ^ (i + j) := by rw [Int.natAbs_mul]; exact pow_mul_lt hA.lt hB.lt
  obtain ⟨M, h1, rfl⟩ := hA
  obtain ⟨N, h2, rfl⟩ := hB
  exact (wmul_any h1 h2 hij).mono fun e W' h => WPost.mk hl (by rw [← wn_mul]; exact h)
theorem znorm (hA : Wv w s a m cap x i) (hi : i ≤ 17592186044416) :
    Calls Tryd.prog 43 #[.agg #[.bool s, .slice a m cap]] w (WPost w x i) := by
  have hl := hA.lt
  obtain ⟨M, h1, rfl⟩ := hA
  exact (wnorm_any h1 hi).mono fun e W' h => WPost.mk hl h
theorem zneg (hA : Wv w s a m cap x i) (hi : i ≤ 17592186044416) :
    Calls Tryd.prog 23 #[.agg #[.bool s, .slice a m cap]] w (WPost w (-x) i) := by
  have hl := hA.lt
  rw [← Int.natAbs_neg] at hl
  obtain ⟨M, h1, rfl⟩ := hA
  exact (wneg_any h1 hi).mono fun e W' h => WPost.mk hl (by rw [← wn_not]; exact h)
end

set_option maxRecDepth 100000 in
theorem zsub {s t : Bool} {a a' : Option Addr} {m cap m' cap' : Nat} {x y : Int} {i j : Nat} {w : World} (hA : Wv w s a m cap x i) (hB : Wv w t a' m' cap' y j) (hi : i ≤ 17592186044416) (hj : j ≤ 17592186044416) :
    Calls Tryd.prog 21 #[.agg #[.bool s, .slice a m cap], .agg #[.bool t, .slice a' m' cap']] w (WPost w (x - y) (max i j + 1)) := by
  have hB : Wv w (!t) a' m' cap' (-y) j := by
    obtain ⟨N, h2, rfl⟩ := hB
    exact ⟨N, h2, (wn_not t N).symm⟩
  go_enter Tryd.func21, Tryd.ntmps21
  go_wp2_with fail
  have hb := boxes3 w (.bool s) (.slice a m cap) (.bool t) (.slice a' m' cap') (.bool false) (.slice none 0 0)
  generalize ((w.alloc (.cells #[.bool s, .slice a m cap] 24)).alloc (.cells #[.bool t, .slice a' m' cap'] 24)).alloc (.cells #[.bool false, .slice none 0 0] 24) = W0 at hb ⊢
  obtain ⟨hW, G, G2, R, hsz⟩ := hb
  have hA := hA.behind hW
  have hB := hB.behind hW
  have c0 := G.c0
  have c1 := G.c1
  have c2 := G2.c0
  have c3 := G2.c1
  go_wp2_with fail
  refine (zadd hA hB hi hj).mono ?_
  rintro e w1 ⟨b, a, m, c, rfl, h1, h2, b1⟩
  have R := R.behind b1
  have B1 := below_both hW b1
  have r0 := R.c0; have r1 := R.c1; have r2 := R.f 0; have r3 := R.f 1
  go_wp2_with fail
  rw [Int.sub_eq_add_neg]
  refine bodyPost_ret (v := .agg #[.bool b, .slice a m c]) (by simp [results, Tryd.results21, go_sem, r0, r1]) rfl (WPost.mk h1.lt ⟨_, _, _, _, rfl, ?_, ?_⟩)
  · obtain ⟨u, e1, e2⟩ := h2
    exact ⟨u, e1, ((e2.put (by show w.heap.size + 1 + 1 < W0.heap.size; omega) _).put (by show w.heap.size + 1 + 1 < W0.heap.size; omega) _).mono (by omega)⟩
  · exact (B1.setCell (by show _ ≤ w.heap.size + 2; omega) _).setCell (by show _ ≤ w.heap.size + 2; omega) _
end Go.Proofs.YtfbnpdlkbabmfaaDoor

/- whole's Sign, Cmp, Of. -/
namespace Go.Proofs.YtfbnpdlkbabmfaaDoor
open Go.RowKit Go.Shelf
attribute [local go_sem ↓] Go.wp_at_zero Go.wp_at_succ

theorem either_int (c : Bool) (p q : Int) (w : World) :
    Calls Tryd.prog 47 #[.bool c, .int .i64 p, .int .i64 q] w fun e W' => e = .returned (.int .i64 (if c then p else q)) ∧ w = W' := by
  cases c
  · go_enter Tryd.func47, Tryd.ntmps47
    go_wp2
    go_ret
    exact ⟨rfl, rfl⟩
  · go_enter Tryd.func47, Tryd.ntmps47
    go_wp2
    go_ret
    exact ⟨rfl, rfl⟩
theorem cmpZ_zero (s : Bool) {M : Nat} (h : M ≠ 0) : cmpZ (wn s M) 0 = if s then -1 else 1 := by
  cases s <;> simp [cmpZ, wn] <;> omega
theorem bits_num0 {va : Value} {i : Nat} {w : World} (hA : Num w va 0 i) (hi : i ≤ 17592186044416) :
    Calls Tryd.prog 14 #[va] w fun e W' => e = .returned (.int .i64 0) ∧ Below w.heap.size w W' := bits_num hA hi
set_option maxRecDepth 100000 in
theorem zsign {s : Bool} {a : Option Addr} {m cap : Nat} {x : Int} {i : Nat} {w : World} (hA : Wv w s a m cap x i) (hi : i ≤ 17592186044416) :
    Calls Tryd.prog 22 #[.agg #[.bool s, .slice a m cap]] w fun e W' => e = .returned (.int .i64 (cmpZ x 0)) ∧ Below w.heap.size w W' := by
  obtain ⟨M, h1, rfl⟩ := hA
  have hB := bel_alloc w (.cells #[.bool s, .slice a m cap] 24)
  have G := Bx.new w (.bool s) (.slice a m cap)
  by_cases h0 : M = 0
  · subst h0
    have e0 : cmpZ (wn s 0) 0 = 0 := by cases s <;> rfl
    rw [e0]
    clear e0
    go_enter Tryd.func22, Tryd.ntmps22
    go_wp2_with fail
    generalize (w.alloc (.cells #[.bool s, .slice a m cap] 24)) = W0 at hB G ⊢
    have hA := h1.behind hB
    have c0 := G.c0
    have c1 := G.c1
    go_wp2_with fail
    refine (bits_num0 hA hi).mono ?_
    rintro e w1 ⟨rfl, b1⟩
    go_wp2_with fail
    go_ret
    exact ⟨rfl, below_both hB b1⟩
  · have hn : ((nbits M : Int) == 0) = false := beq_eq_false_iff_ne.2 (fun h => h0 (nbits_eq_zero (by omega)))
    rw [cmpZ_zero s h0]
    go_enter Tryd.func22, Tryd.ntmps22
    go_wp2_with fail
    generalize (w.alloc (.cells #[.bool s, .slice a m cap] 24)) = W0 at hB G ⊢
    have hA := h1.behind hB
    have c0 := G.c0
    have c1 := G.c1
    go_wp2_with fail
    refine (bits_num hA hi).mono ?_
    rintro e w1 ⟨rfl, b1⟩
    clear c0 c1
    have G := G.behind b1
    have c0 := G.c0
    go_wp2_with fail
    refine (either_int s (-1) 1 _).mono ?_
    rintro e w2 ⟨rfl, rfl⟩
    go_wp2_with fail
    all_goals go_ret
    all_goals exact ⟨ret_int (by simp_all), below_both hB b1⟩
/-- what two whole numbers that have one sign are to each other -/
theorem cmp_one (s t : Bool) (M N : Nat) (h : cmpZ (wn s M) 0 = cmpZ (wn t N) 0) : cmpZ (wn s M) (wn t N) = cmpZ (wn s M) 0 * cmpN M N := by
  rw [← cmpZ_nat]
  revert h
  unfold cmpZ wn
  cases s <;> cases t <;> simp <;> (repeat' split) <;> intros <;> omega
theorem cmp_two (x y : Int) (h : cmpZ x 0 ≠ cmpZ y 0) : cmpZ x y = cmpZ (cmpZ x 0) (cmpZ y 0) := by
  revert h
  unfold cmpZ
  (repeat' split) <;> intros <;> omega
theorem cmpZ_bd (x y : Int) : -1 ≤ cmpZ x y ∧ cmpZ x y ≤ 1 := by
  unfold cmpZ
  (repeat' split) <;> omega
theorem cmpN_bd (x y : Nat) : -1 ≤ cmpN x y ∧ cmpN x y ≤ 1 := by
  unfold cmpN
  (repeat' split) <;> omega
theorem mul_wrap {p q : Int} (hp : -1 ≤ p ∧ p ≤ 1) (hq : -1 ≤ q ∧ q ≤ 1) : IntKind.i64.wrap (p * q) = p * q := by
  have h1 : p = -1 ∨ p = 0 ∨ p = 1 := by omega
  have h2 : q = -1 ∨ q = 0 ∨ q = 1 := by omega
  rcases h1 with rfl | rfl | rfl <;> rcases h2 with rfl | rfl | rfl <;> rfl
set_option maxRecDepth 100000 in
theorem zcmp_ne {s t : Bool} {a a' : Option Addr} {m cap m' cap' M N : Nat} {i j : Nat} {w : World} (hA : Num w (.slice a m cap) M i) (hC : Num w (.slice a' m' cap') N j) (hi : i ≤ 17592186044416) (hj : j ≤ 17592186044416) (hne : (cmpZ (wn s M) 0 == cmpZ (wn t N) 0) = false) (hne2 : (cmpZ (wn s M) 0 != cmpZ (wn t N) 0) = true) :
    Calls Tryd.prog 18 #[.agg #[.bool s, .slice a m cap], .agg #[.bool t, .slice a' m' cap']] w fun e W' => e = .returned (.int .i64 (cmpZ (wn s M) (wn t N))) ∧ Below w.heap.size w W' := by
  have zA : Wv w s a m cap (wn s M) i := ⟨M, hA, rfl⟩
  have zB : Wv w t a' m' cap' (wn t N) j := ⟨N, hC, rfl⟩
  have hb : ∀ (W : World), W = (w.alloc (.cells #[.bool s, .slice a m cap] 24)).alloc (.cells #[.bool t, .slice a' m' cap'] 24) → Below w.heap.size w W ∧ Bx W w.heap.size (.bool s) (.slice a m cap) ∧ Bx W (w.heap.size + 1) (.bool t) (.slice a' m' cap') := by
    rintro W rfl
    have h := boxes2 w (.bool s) (.slice a m cap) (.bool t) (.slice a' m' cap')
    exact ⟨h.1, h.2.1, h.2.2.1⟩
  go_enter Tryd.func18, Tryd.ntmps18
  go_wp2
  obtain ⟨hB, G, G2⟩ := hb _ rfl
  generalize (w.alloc (.cells #[.bool s, .slice a m cap] 24)).alloc (.cells #[.bool t, .slice a' m' cap'] 24) = W0 at hB G G2 ⊢
  have hA := hA.behind hB
  have hC := hC.behind hB
  have zA := zA.behind hB
  have zB := zB.behind hB
  clear hb
  have bd := (Below.refl (W0).heap.size (W0)).drew
  have hA := hA.behind bd
  have hC := hC.behind bd
  have zA := zA.behind bd
  have zB := zB.behind bd
  have G := G.behind bd
  have G2 := G2.behind bd
  have B0 := below_both hB bd
  clear bd
  have c0 := G.c0
  have c1 := G.c1
  have c2 := G2.c0
  have c3 := G2.c1
  go_region_held3 (fun w' => w'.cell? ⟨w.heap.size, 0, none⟩ = some (.bool s) ∧ w'.cell? ⟨w.heap.size, 1, none⟩ = some (.slice a m cap) ∧ w'.cell? ⟨w.heap.size + 1, 0, none⟩ = some (.bool t) ∧ w'.cell? ⟨w.heap.size + 1, 1, none⟩ = some (.slice a' m' cap')) (first | exact ⟨G.c0, G.c1, G2.c0, G2.c1⟩ | (refine ⟨?_, ?_, ?_, ?_⟩ <;> go_keep))
    (first
      | (have _ := B1; go_at_call 22; (first | (with_reducible refine (zsign zA hi).mono ?_) | (with_reducible refine (zsign zB hj).mono ?_)); rintro e w2 ⟨rfl, b2⟩; have zA := zA.behind b2; have zB := zB.behind b2; have hA := hA.behind b2; have hC := hC.behind b2; have G := G.behind b2; have G2 := G2.behind b2; have B2 := below_both B1 b2; clear b2)
      | (go_at_call 22; (first | (with_reducible refine (zsign zA hi).mono ?_) | (with_reducible refine (zsign zB hj).mono ?_)); rintro e w1 ⟨rfl, b1⟩; have zA := zA.behind b1; have zB := zB.behind b1; have hA := hA.behind b1; have hC := hC.behind b1; have G := G.behind b1; have G2 := G2.behind b1; have B1 := below_both B0 b1; clear b1))
  all_goals
    go_wp2_with fail
    refine (compareInt _ _ _).mono ?_
    rintro e w3 ⟨rfl, rfl⟩
    go_wp2_with fail
    go_ret
    exact ⟨ret_int (cmp_two _ _ (by simpa using hne)).symm, B2⟩
set_option maxRecDepth 100000 in
theorem zcmp_eq {s t : Bool} {a a' : Option Addr} {m cap m' cap' M N : Nat} {i j : Nat} {w : World} (hA : Num w (.slice a m cap) M i) (hC : Num w (.slice a' m' cap') N j) (hi : i ≤ 17592186044416) (hj : j ≤ 17592186044416) (heq : (cmpZ (wn s M) 0 == cmpZ (wn t N) 0) = true) (heq2 : (cmpZ (wn s M) 0 != cmpZ (wn t N) 0) = false) :
    Calls Tryd.prog 18 #[.agg #[.bool s, .slice a m cap], .agg #[.bool t, .slice a' m' cap']] w fun e W' => e = .returned (.int .i64 (cmpZ (wn s M) (wn t N))) ∧ Below w.heap.size w W' := by
  have zA : Wv w s a m cap (wn s M) i := ⟨M, hA, rfl⟩
  have zB : Wv w t a' m' cap' (wn t N) j := ⟨N, hC, rfl⟩
  have hb : ∀ (W : World), W = (w.alloc (.cells #[.bool s, .slice a m cap] 24)).alloc (.cells #[.bool t, .slice a' m' cap'] 24) → Below w.heap.size w W ∧ Bx W w.heap.size (.bool s) (.slice a m cap) ∧ Bx W (w.heap.size + 1) (.bool t) (.slice a' m' cap') := by
    rintro W rfl
    have h := boxes2 w (.bool s) (.slice a m cap) (.bool t) (.slice a' m' cap')
    exact ⟨h.1, h.2.1, h.2.2.1⟩
  go_enter Tryd.func18, Tryd.ntmps18
  go_wp2
  obtain ⟨hB, G, G2⟩ := hb _ rfl
  generalize (w.alloc (.cells #[.bool s, .slice a m cap] 24)).alloc (.cells #[.bool t, .slice a' m' cap'] 24) = W0 at hB G G2 ⊢
  have hA := hA.behind hB
  have hC := hC.behind hB
  have zA := zA.behind hB
  have zB := zB.behind hB
  clear hb
  have bd := (Below.refl (W0).heap.size (W0)).drew
  have hA := hA.behind bd
  have hC := hC.behind bd
  have zA := zA.behind bd
  have zB := zB.behind bd
  have G := G.behind bd
  have G2 := G2.behind bd
  have B0 := below_both hB bd
  clear bd
  have c0 := G.c0
  have c1 := G.c1
  have c2 := G2.c0
  have c3 := G2.c1
  go_region_held3 (fun w' => w'.cell? ⟨w.heap.size, 0, none⟩ = some (.bool s) ∧ w'.cell? ⟨w.heap.size, 1, none⟩ = some (.slice a m cap) ∧ w'.cell? ⟨w.heap.size + 1, 0, none⟩ = some (.bool t) ∧ w'.cell? ⟨w.heap.size + 1, 1, none⟩ = some (.slice a' m' cap')) (first | exact ⟨G.c0, G.c1, G2.c0, G2.c1⟩ | (refine ⟨?_, ?_, ?_, ?_⟩ <;> go_keep))
    (first
      | (have _ := B1; go_at_call 22; (first | (with_reducible refine (zsign zA hi).mono ?_) | (with_reducible refine (zsign zB hj).mono ?_)); rintro e w2 ⟨rfl, b2⟩; have zA := zA.behind b2; have zB := zB.behind b2; have hA := hA.behind b2; have hC := hC.behind b2; have G := G.behind b2; have G2 := G2.behind b2; have B2 := below_both B1 b2; clear b2)
      | (go_at_call 22; (first | (with_reducible refine (zsign zA hi).mono ?_) | (with_reducible refine (zsign zB hj).mono ?_)); rintro e w1 ⟨rfl, b1⟩; have zA := zA.behind b1; have zB := zB.behind b1; have hA := hA.behind b1; have hC := hC.behind b1; have G := G.behind b1; have G2 := G2.behind b1; have B1 := below_both B0 b1; clear b1))
  all_goals
    have d0 := G.c0
    have d1 := G.c1
    have d2 := G2.c0
    have d3 := G2.c1
    go_wp2_with fail
    refine (cmp_num hA hC hi hj).mono ?_
    rintro e w3 ⟨rfl, b3⟩
    have hw : IntKind.i64.wrap (cmpZ (wn s M) 0 * cmpN M N) = cmpZ (wn s M) 0 * cmpN M N := mul_wrap (cmpZ_bd _ _) (cmpN_bd _ _)
    go_wp2_with fail
    go_ret
    exact ⟨ret_int (cmp_one s t M N (by simpa using heq)).symm, below_both B2 b3⟩
theorem zcmp {s t : Bool} {a a' : Option Addr} {m cap m' cap' : Nat} {x y : Int} {i j : Nat} {w : World} (hA : Wv w s a m cap x i) (hB : Wv w t a' m' cap' y j) (hi : i ≤ 17592186044416) (hj : j ≤ 17592186044416) :
    Calls Tryd.prog 18 #[.agg #[.bool s, .slice a m cap], .agg #[.bool t, .slice a' m' cap']] w fun e W' => e = .returned (.int .i64 (cmpZ x y)) ∧ Below w.heap.size w W' := by
  obtain ⟨M, h1, rfl⟩ := hA
  obtain ⟨N, h2, rfl⟩ := hB
  by_cases h : cmpZ (wn s M) 0 = cmpZ (wn t N) 0
  · exact zcmp_eq h1 h2 hi hj (by simpa using h) (by simpa using h)
  · exact zcmp_ne h1 h2 hi hj (by simpa using h) (by simpa using h)
end Go.Proofs.YtfbnpdlkbabmfaaDoor
