/- ratio's Norm, Add, Sub, Mul, Div, Cmp. -/
import Derived.Test.YtfbnpdlkbabmfaaDoorRtTold
namespace Go.Proofs.YtfbnpdlkbabmfaaDoor
open Go.RowKit Go.Shelf
attribute [local go_sem ↓] Go.wp_at_zero Go.wp_at_succ

/-- what a call of ratio answers: a fraction and an error -/
def RQ (w : World) (z : Int) (d : Nat) (q : Int) (e : Ending) (W' : World) : Prop := ∃ p pa pl pc qa ql qc u, e = .returned (.tuple #[.agg #[.bool p, .slice pa pl pc, .slice qa ql qc], .int .i64 u]) ∧ WNew w.heap.size W' (.agg #[.bool p, .slice pa pl pc]) z ∧ New w.heap.size W' (.slice qa ql qc) (digs 18446744073709551616 d) ∧ Below w.heap.size w W' ∧ q = u
theorem RQ.up {w w1 : World} {z : Int} {d : Nat} {q : Int} {e : Ending} {W' : World} (hb : Below w.heap.size w w1) (h : RQ w1 z d q e W') : RQ w z d q e W' := by
  obtain ⟨p, pa, pl, pc, qa, ql, qc, u, h1, h2, h3, h4, h5⟩ := h
  exact ⟨p, pa, pl, pc, qa, ql, qc, u, h1, h2.mono hb.size, h3.mono hb.size, below_both hb h4, h5⟩
theorem rqend {w W : World} {n r : Nat} {p : Bool} {pa qa : Option Addr} {pl pc ql qc d : Nat} {z q u : Int} (hB : Below w.heap.size w W) (hr : w.heap.size ≤ r) (hn : r < n) (nf : WNew n W (.agg #[.bool p, .slice pa pl pc]) z) (nd : New n W (.slice qa ql qc) (digs 18446744073709551616 d)) (hq : q = u) :
    RQ w z d q (.returned (.tuple #[.agg #[.bool p, .slice pa pl pc, .slice qa ql qc], .int .i64 u])) (((W.setCell ⟨r, 0, none⟩ (.bool p)).setCell ⟨r, 1, none⟩ (.slice pa pl pc)).setCell ⟨r, 2, none⟩ (.slice qa ql qc)) :=
  ⟨_, _, _, _, _, _, _, _, rfl, (((nf.put3 hn _).put3 hn _).put3 hn _).mono (by omega), (((nd.put hn _).put hn _).put hn _).mono (by omega), set3 hB hr _ _ _, hq⟩
theorem wnew_zero {n : Nat} {W : World} (h : 0 < W.heap.size) : WNew n W (.agg #[.bool false, .slice none 0 0]) 0 := ⟨_, rfl, new_zero h⟩
theorem rqnil {w W : World} {r : Nat} {q u : Int} (hB : Below w.heap.size w W) (hr : w.heap.size ≤ r) (h0 : 0 < W.heap.size) (hq : q = u) :
    RQ w 0 0 q (.returned (.tuple #[.agg #[.bool false, .slice none 0 0, .slice none 0 0], .int .i64 u])) (((W.setCell ⟨r, 0, none⟩ (.bool false)).setCell ⟨r, 1, none⟩ (.slice none 0 0)).setCell ⟨r, 2, none⟩ (.slice none 0 0)) :=
  ⟨_, _, _, _, _, _, _, _, rfl, wnew_zero (by simpa [World.setCell] using h0), new_zero (by simpa [World.setCell] using h0), set3 hB hr _ _ _, hq⟩
theorem Wv.more {w : World} {s : Bool} {a : Option Addr} {m c i j : Nat} {x : Int} (h : Wv w s a m c x i) (hij : i ≤ j) : Wv w s a m c x j := by
  obtain ⟨M, h1, h2⟩ := h
  exact ⟨M, h1.more hij, h2⟩
theorem rtoldz {s : Bool} {a b : Option Addr} {m c n k D i j l : Nat} {x : Int} {w : World} (zA : Wv w s a m c x i) (hD : Num w (.slice b n k) D j) (H0 : Hid (D ≠ 0)) (hT : TabOk w) (hl : l ≤ 4398046511104) (hi : i ≤ l) (hj : j ≤ l) :
    Calls Tryd.prog 31 #[.agg #[.bool s, .slice a m c], .slice b n k] w (RV w (rz x D) (rd x D)) := by
  obtain ⟨M, h1, rfl⟩ := zA
  exact rtold (h1.more hi) (hD.more hj) hl H0 hT
theorem rlevelz {s s' : Bool} {a a' b b' : Option Addr} {m c m' c' n k n' k' D D' i : Nat} {x x' : Int} {w : World} (zA : Wv w s a m c x i) (hD : Num w (.slice b n k) D i) (zA' : Wv w s' a' m' c' x' i) (hD' : Num w (.slice b' n' k') D' i) (hi : 2 * i ≤ 17592186044416) :
    Calls Tryd.prog 30 #[.agg #[.bool s, .slice a m c, .slice b n k, .bool s', .slice a' m' c', .slice b' n' k']] w (LP w (x * D') (x' * D)) := by
  obtain ⟨M, h1, rfl⟩ := zA
  obtain ⟨M', h2, rfl⟩ := zA'
  exact rlevel h1 hD h2 hD' (by omega) (by omega)
theorem mul_pos' {D D' : Nat} (H0 : Hid (D ≠ 0)) (H1 : Hid (D' ≠ 0)) : Hid (D * D' ≠ 0) := Lib.hid (Nat.mul_ne_zero H0.out H1.out)
set_option maxRecDepth 100000 in
set_option maxHeartbeats 2000000 in
theorem rnorm_ok {s : Bool} {a b : Option Addr} {m c n k D i : Nat} {x : Int} {w : World} (zA : Wv w s a m c x i) (hD : Num w (.slice b n k) D i) (hi : i ≤ 4398046511104) (H0 : Hid (D ≠ 0)) (hT : TabOk w) :
    Calls Tryd.prog 25 #[.agg #[.bool s, .slice a m c, .slice b n k]] w (RQ w (rz x D) (rd x D) 0) := by
  have HI := Lib.hid hi
  have hb := dbox2 w #[.bool s, .slice a m c, .slice b n k] #[.bool false, .slice none 0 0, .slice none 0 0] 26 26
  go_enter Tryd.func25, Tryd.ntmps25
  go_wp2_with fail
  obtain ⟨hB, G, R, hsz⟩ := hb _ rfl
  generalize ((w.alloc (.cells #[.bool s, .slice a m c, .slice b n k] 26)).alloc (.cells #[.bool false, .slice none 0 0, .slice none 0 0] 26)) = W0 at hB G R hsz ⊢
  clear hb
  have c0 := G.cell (i := 0) rfl
  have c1 := G.cell (i := 1) rfl
  have c2 := G.cell (i := 2) rfl
  go_wp2_with fail
  refine (rcheck_ok (hD.behind hB) (Nat.le_trans HI.out (by decide)) H0.out).mono ?_
  rintro e w1 ⟨rfl, b1⟩
  have G := G.behind b1
  have R := R.behind b1
  have B1 := below_both hB b1
  have z1 := b1.size
  clear c0 c1 c2
  have c0 := G.cell (i := 0) rfl
  have c1 := G.cell (i := 1) rfl
  have c2 := G.cell (i := 2) rfl
  go_wp2_with fail
  refine (rtoldz (zA.behind B1) (hD.behind B1) H0 (hT.behind B1) HI.out (Nat.le_refl _) (Nat.le_refl _)).mono ?_
  rintro e w2 ⟨p, pa, pl, pc, qa, ql, qc, rfl, nf, nd, b2⟩
  have R := R.behind b2
  have B2 := below_both B1 b2
  have r0 := R.cell (i := 0) rfl
  have r1 := R.cell (i := 1) rfl
  have r2 := R.cell (i := 2) rfl
  have f0 := R.f 0
  have f1 := R.f 1
  have f2 := R.f 2
  go_wp2
  exact bodyPost_ret (v := .tuple #[.agg #[.bool p, .slice pa pl pc, .slice qa ql qc], .int .i64 0]) (by simp [results, Tryd.results25, go_sem, r0, r1, r2]) rfl (rqend (r := w.heap.size + 1) (n := w1.heap.size) B2 (by omega) (by omega) nf nd rfl)
set_option maxRecDepth 100000 in
set_option maxHeartbeats 2000000 in
theorem rnorm_no {s : Bool} {a b : Option Addr} {m c n k D i : Nat} {x : Int} {w : World} (zA : Wv w s a m c x i) (hD : Num w (.slice b n k) D i) (hi : i ≤ 4398046511104) (H0 : Hid (D = 0)) :
    Calls Tryd.prog 25 #[.agg #[.bool s, .slice a m c, .slice b n k]] w (RQ w 0 0 9) := by
  have HI := Lib.hid hi
  have hb := dbox2 w #[.bool s, .slice a m c, .slice b n k] #[.bool false, .slice none 0 0, .slice none 0 0] 26 26
  go_enter Tryd.func25, Tryd.ntmps25
  go_wp2_with fail
  obtain ⟨hB, G, R, hsz⟩ := hb _ rfl
  generalize ((w.alloc (.cells #[.bool s, .slice a m c, .slice b n k] 26)).alloc (.cells #[.bool false, .slice none 0 0, .slice none 0 0] 26)) = W0 at hB G R hsz ⊢
  clear hb
  have c0 := G.cell (i := 0) rfl
  have c1 := G.cell (i := 1) rfl
  have c2 := G.cell (i := 2) rfl
  go_wp2_with fail
  refine (rcheck_no (hD.behind hB) (Nat.le_trans HI.out (by decide)) H0.out).mono ?_
  rintro e w1 ⟨rfl, b1⟩
  have G := G.behind b1
  have R := R.behind b1
  have B1 := below_both hB b1
  have z1 := b1.size
  clear c0 c1 c2
  have r0 := R.cell (i := 0) rfl
  have r1 := R.cell (i := 1) rfl
  have r2 := R.cell (i := 2) rfl
  have f0 := R.f 0
  have f1 := R.f 1
  have f2 := R.f 2
  go_wp2
  exact bodyPost_ret (v := .tuple #[.agg #[.bool false, .slice none 0 0, .slice none 0 0], .int .i64 9]) (by simp [results, Tryd.results25, go_sem, r0, r1, r2]) rfl (rqnil (r := w.heap.size + 1) B1 (by omega) (Nat.lt_of_le_of_lt (Nat.zero_le _) R.lt) rfl)
set_option maxRecDepth 100000 in
set_option maxHeartbeats 2000000 in
theorem radd_no {s s' : Bool} {a a' b b' : Option Addr} {m c m' c' n k n' k' D D' i : Nat} {x x' : Int} {w : World} (zA : Wv w s a m c x i) (hD : Num w (.slice b n k) D i) (zA' : Wv w s' a' m' c' x' i) (hD' : Num w (.slice b' n' k') D' i) (hi : i ≤ 4398046511104) (H0 : Hid (D = 0 ∨ D' = 0)) :
    Calls Tryd.prog 9 #[.agg #[.bool s, .slice a m c, .slice b n k], .agg #[.bool s', .slice a' m' c', .slice b' n' k']] w (RQ w 0 0 9) := by
  have HI := Lib.hid hi
  have hb := dbox3 w #[.bool s, .slice a m c, .slice b n k] #[.bool s', .slice a' m' c', .slice b' n' k'] #[.bool false, .slice none 0 0, .slice none 0 0] 26 26 26
  have hbs := fun W => dbox1 W #[.bool s, .slice a m c, .slice b n k, .bool s', .slice a' m' c', .slice b' n' k'] 55
  go_enter Tryd.func9, Tryd.ntmps9
  go_wp2_with fail
  obtain ⟨hB, G, G2, R, hsz⟩ := hb _ rfl
  generalize (((w.alloc (.cells #[.bool s, .slice a m c, .slice b n k] 26)).alloc (.cells #[.bool s', .slice a' m' c', .slice b' n' k'] 26)).alloc (.cells #[.bool false, .slice none 0 0, .slice none 0 0] 26)) = W0 at hB G G2 R hsz ⊢
  clear hb
  have c0 := G.cell (i := 0) rfl
  have c1 := G.cell (i := 1) rfl
  have c2 := G.cell (i := 2) rfl
  have d0 := G2.cell (i := 0) rfl
  have d1 := G2.cell (i := 1) rfl
  have d2 := G2.cell (i := 2) rfl
  go_wp2_with fail
  obtain ⟨b1, S, z1⟩ := hbs W0 _ rfl
  generalize (W0.alloc (.cells #[.bool s, .slice a m c, .slice b n k, .bool s', .slice a' m' c', .slice b' n' k'] 55)) = W1 at b1 S z1 ⊢
  rw [hsz] at S z1
  have G := G.behind b1
  have G2 := G2.behind b1
  have R := R.behind b1
  have B1 := below_both hB b1
  clear c0 c1 c2 d0 d1 d2
  have p0 := S.cell (i := 0) rfl
  have p1 := S.cell (i := 1) rfl
  have p2 := S.cell (i := 2) rfl
  have p3 := S.cell (i := 3) rfl
  have p4 := S.cell (i := 4) rfl
  have p5 := S.cell (i := 5) rfl
  go_wp2_with fail
  refine (checkBoth_no (hD.behind B1) (hD'.behind B1) (Nat.le_trans HI.out (by decide)) (Nat.le_trans HI.out (by decide)) H0.out).mono ?_
  rintro e w2 ⟨rfl, b2⟩
  have G := G.behind b2
  have G2 := G2.behind b2
  have R := R.behind b2
  have S := S.behind b2
  have B2 := below_both B1 b2
  have z2 := b2.size
  clear p0 p1 p2 p3 p4 p5
  have r0 := R.cell (i := 0) rfl
  have r1 := R.cell (i := 1) rfl
  have r2 := R.cell (i := 2) rfl
  have f0 := R.f 0
  have f1 := R.f 1
  have f2 := R.f 2
  go_wp2
  exact bodyPost_ret (v := .tuple #[.agg #[.bool false, .slice none 0 0, .slice none 0 0], .int .i64 9]) (by simp [results, Tryd.results9, go_sem, r0, r1, r2]) rfl (rqnil (r := w.heap.size + 1 + 1) B2 (by omega) (Nat.lt_of_le_of_lt (Nat.zero_le _) R.lt) rfl)
set_option maxRecDepth 100000 in
set_option maxHeartbeats 2000000 in
theorem radd_ok {s s' : Bool} {a a' b b' : Option Addr} {m c m' c' n k n' k' D D' i : Nat} {x x' : Int} {w : World} (zA : Wv w s a m c x i) (hD : Num w (.slice b n k) D i) (zA' : Wv w s' a' m' c' x' i) (hD' : Num w (.slice b' n' k') D' i) (hi : 2 * i + 1 ≤ 4398046511104) (H0 : Hid (D ≠ 0)) (H1 : Hid (D' ≠ 0)) (hT : TabOk w) :
    Calls Tryd.prog 9 #[.agg #[.bool s, .slice a m c, .slice b n k], .agg #[.bool s', .slice a' m' c', .slice b' n' k']] w (RQ w (rz (x * D' + x' * D) (D * D')) (rd (x * D' + x' * D) (D * D')) 0) := by
  have HI : Hid (i ≤ 4398046511104) := Lib.hid (by omega)
  have hbw := fun W p pa pl pc q qa ql qc => dbox1 W #[.bool p, .slice pa pl pc, .bool q, .slice qa ql qc] 57
  have hb := dbox3 w #[.bool s, .slice a m c, .slice b n k] #[.bool s', .slice a' m' c', .slice b' n' k'] #[.bool false, .slice none 0 0, .slice none 0 0] 26 26 26
  have hbs := fun W => dbox1 W #[.bool s, .slice a m c, .slice b n k, .bool s', .slice a' m' c', .slice b' n' k'] 55
  go_enter Tryd.func9, Tryd.ntmps9
  go_wp2_with fail
  obtain ⟨hB, G, G2, R, hsz⟩ := hb _ rfl
  generalize (((w.alloc (.cells #[.bool s, .slice a m c, .slice b n k] 26)).alloc (.cells #[.bool s', .slice a' m' c', .slice b' n' k'] 26)).alloc (.cells #[.bool false, .slice none 0 0, .slice none 0 0] 26)) = W0 at hB G G2 R hsz ⊢
  clear hb
  have c0 := G.cell (i := 0) rfl
  have c1 := G.cell (i := 1) rfl
  have c2 := G.cell (i := 2) rfl
  have d0 := G2.cell (i := 0) rfl
  have d1 := G2.cell (i := 1) rfl
  have d2 := G2.cell (i := 2) rfl
  go_wp2_with fail
  obtain ⟨b1, S, z1⟩ := hbs W0 _ rfl
  generalize (W0.alloc (.cells #[.bool s, .slice a m c, .slice b n k, .bool s', .slice a' m' c', .slice b' n' k'] 55)) = W1 at b1 S z1 ⊢
  rw [hsz] at S z1
  have G := G.behind b1
  have G2 := G2.behind b1
  have R := R.behind b1
  have B1 := below_both hB b1
  clear c0 c1 c2 d0 d1 d2
  have p0 := S.cell (i := 0) rfl
  have p1 := S.cell (i := 1) rfl
  have p2 := S.cell (i := 2) rfl
  have p3 := S.cell (i := 3) rfl
  have p4 := S.cell (i := 4) rfl
  have p5 := S.cell (i := 5) rfl
  go_wp2_with fail
  refine (checkBoth_ok (hD.behind B1) (hD'.behind B1) (Nat.le_trans HI.out (by decide)) (Nat.le_trans HI.out (by decide)) H0 H1).mono ?_
  rintro e w2 ⟨rfl, b2⟩
  have G := G.behind b2
  have G2 := G2.behind b2
  have R := R.behind b2
  have S := S.behind b2
  have B2 := below_both B1 b2
  have z2 := b2.size
  clear p0 p1 p2 p3 p4 p5
  have p0 := S.cell (i := 0) rfl
  have p1 := S.cell (i := 1) rfl
  have p2 := S.cell (i := 2) rfl
  have p3 := S.cell (i := 3) rfl
  have p4 := S.cell (i := 4) rfl
  have p5 := S.cell (i := 5) rfl
  go_wp2_with fail
  refine (rlevelz (zA.behind B2) (hD.behind B2) (zA'.behind B2) (hD'.behind B2) (by omega)).mono ?_
  rintro e w3 ⟨p, pa, pl, pc, q, qa, ql, qc, rfl, nP, nQ, b3⟩
  have G := G.behind b3
  have G2 := G2.behind b3
  have R := R.behind b3
  have B3 := below_both B2 b3
  have z3 := b3.size
  clear p0 p1 p2 p3 p4 p5 S hbs
  go_wp2_with fail
  obtain ⟨b4, U, z4⟩ := hbw w3 p pa pl pc q qa ql qc _ rfl
  generalize (w3.alloc (.cells #[.bool p, .slice pa pl pc, .bool q, .slice qa ql qc] 57)) = W4 at b4 U z4 ⊢
  generalize w3.heap.size = g at U z3 z4 ⊢
  have G := G.behind b4
  have G2 := G2.behind b4
  have R := R.behind b4
  have nP := nP.behind b4
  have nQ := nQ.behind b4
  have B4 := below_both B3 b4
  clear hbw
  have bd := (Below.refl (W4).heap.size (W4)).drew
  have G := G.behind bd
  have G2 := G2.behind bd
  have R := R.behind bd
  have U := U.behind bd
  have nP := nP.behind bd
  have nQ := nQ.behind bd
  have Bc := below_both B4 bd
  have hA := zA.lt
  have hA' := zA'.lt
  have zP : Wv W4.drew p pa pl pc (x * D') (2 * i) := nP.wv (by rw [Int.natAbs_mul, Int.natAbs_natCast, Nat.two_mul]; exact pow_mul_lt hA hD'.lt)
  have zQ : Wv W4.drew q qa ql qc (x' * D) (2 * i) := nQ.wv (by rw [Int.natAbs_mul, Int.natAbs_natCast, Nat.two_mul]; exact pow_mul_lt hA' hD.lt)
  have hD := hD.behind Bc
  have hD' := hD'.behind Bc
  have hT := hT.behind Bc
  have H01 := mul_pos' H0 H1
  have hgd : W4.drew.heap.size = g + 1 := z4
  clear bd nP nQ hA hA' zA zA' b4 b3 b2 b1 B1 B2 B3 B4 hB
  have u0 := U.cell (i := 0) rfl
  have u1 := U.cell (i := 1) rfl
  have u2 := U.cell (i := 2) rfl
  have u3 := U.cell (i := 3) rfl
  have c2 := G.cell (i := 2) rfl
  have d2 := G2.cell (i := 2) rfl
  go_region_held3 (fun w' => w'.cell? ⟨g, 0, none⟩ = some (.bool p) ∧ w'.cell? ⟨g, 1, none⟩ = some (.slice pa pl pc) ∧ w'.cell? ⟨g, 2, none⟩ = some (.bool q) ∧ w'.cell? ⟨g, 3, none⟩ = some (.slice qa ql qc) ∧ w'.cell? ⟨w.heap.size, 2, none⟩ = some (.slice b n k) ∧ w'.cell? ⟨w.heap.size + 1, 2, none⟩ = some (.slice b' n' k')) (first | exact ⟨U.cell rfl, U.cell rfl, U.cell rfl, U.cell rfl, G.cell rfl, G2.cell rfl⟩ | exact ⟨(((U.put (by simp <;> omega) _).put (by simp <;> omega) _).put (by simp <;> omega) _).cell rfl, (((U.put (by simp <;> omega) _).put (by simp <;> omega) _).put (by simp <;> omega) _).cell rfl, (((U.put (by simp <;> omega) _).put (by simp <;> omega) _).put (by simp <;> omega) _).cell rfl, (((U.put (by simp <;> omega) _).put (by simp <;> omega) _).put (by simp <;> omega) _).cell rfl, (((G.put (by simp <;> omega) _).put (by simp <;> omega) _).put (by simp <;> omega) _).cell rfl, (((G2.put (by simp <;> omega) _).put (by simp <;> omega) _).put (by simp <;> omega) _).cell rfl⟩ | (refine ⟨?_, ?_, ?_, ?_, ?_, ?_⟩ <;> go_keep))
    (first
      | (go_at_call 31; (with_reducible refine (rtoldz zS hM H01 hT hi (by omega) (by omega)).mono ?_); rintro e w7 ⟨f, fa, fl, fc, ga, gl, gc, rfl, nf, nd, bb⟩; replace G := G.behind bb; replace G2 := G2.behind bb; replace R := R.behind bb; replace U := U.behind bb; replace Bc := below_both Bc bb; have hz7 := Bc.size; have r0 := R.cell (i := 0) rfl; have r1 := R.cell (i := 1) rfl; have r2 := R.cell (i := 2) rfl; have f0 := R.f 0; have f1 := R.f 1; have f2 := R.f 2; have nf := nf.mono (show w.heap.size + 3 ≤ _ by omega); have nd := nd.mono (show w.heap.size + 3 ≤ _ by omega))
      | (go_at_call 17; (with_reducible refine (mul_num hD hD' (by omega)).mono ?_); rintro e w6 ⟨v, rfl, hM, -, bb⟩; replace zS := zS.behind bb; replace G := G.behind bb; replace G2 := G2.behind bb; replace R := R.behind bb; replace U := U.behind bb; replace hT := hT.behind bb; replace Bc := below_both Bc bb; obtain ⟨xa, xm, xc, rfl⟩ := hM.slice; have hz6 := bb.size)
      | (go_at_call 20; (with_reducible refine (zadd zP zQ (by omega) (by omega)).mono ?_); rintro e w5 ⟨t, ta, tl, tc, rfl, zS, -, bb⟩; replace hD := hD.behind bb; replace hD' := hD'.behind bb; replace G := G.behind bb; replace G2 := G2.behind bb; replace R := R.behind bb; replace U := U.behind bb; replace hT := hT.behind bb; replace Bc := below_both Bc bb; have hz5 := bb.size))
  go_wp2
  exact bodyPost_ret (v := .tuple #[.agg #[.bool f, .slice fa fl fc, .slice ga gl gc], .int .i64 0]) (by simp [results, Tryd.results9, go_sem, r0, r1, r2]) rfl (rqend (r := w.heap.size + 1 + 1) (n := w.heap.size + 3) Bc (by omega) (by omega) nf nd rfl)
end Go.Proofs.YtfbnpdlkbabmfaaDoor

/- ratio's Mul, Sub, Cmp, Div. -/
namespace Go.Proofs.YtfbnpdlkbabmfaaDoor
open Go.RowKit Go.Shelf
attribute [local go_sem ↓] Go.wp_at_zero Go.wp_at_succ

set_option maxRecDepth 100000 in
set_option maxHeartbeats 2000000 in
theorem rmul_ok {s s' : Bool} {a a' b b' : Option Addr} {m c m' c' n k n' k' D D' i : Nat} {x x' : Int} {w : World} (zA : Wv w s a m c x i) (hD : Num w (.slice b n k) D i) (zA' : Wv w s' a' m' c' x' i) (hD' : Num w (.slice b' n' k') D' i) (hi : 2 * i + 1 ≤ 4398046511104) (H0 : Hid (D ≠ 0)) (H1 : Hid (D' ≠ 0)) (hT : TabOk w) :
    Calls Tryd.prog 11 #[.agg #[.bool s, .slice a m c, .slice b n k], .agg #[.bool s', .slice a' m' c', .slice b' n' k']] w (RQ w (rz (x * x') (D * D')) (rd (x * x') (D * D')) 0) := by
  have HI : Hid (i ≤ 4398046511104) := Lib.hid (by omega)
  have hb := dbox3 w #[.bool s, .slice a m c, .slice b n k] #[.bool s', .slice a' m' c', .slice b' n' k'] #[.bool false, .slice none 0 0, .slice none 0 0] 26 26 26
  go_enter Tryd.func11, Tryd.ntmps11
  go_wp2_with fail
  obtain ⟨hB, G, G2, R, hsz⟩ := hb _ rfl
  generalize (((w.alloc (.cells #[.bool s, .slice a m c, .slice b n k] 26)).alloc (.cells #[.bool s', .slice a' m' c', .slice b' n' k'] 26)).alloc (.cells #[.bool false, .slice none 0 0, .slice none 0 0] 26)) = W0 at hB G G2 R hsz ⊢
  clear hb
  have c0 := G.cell (i := 0) rfl
  have c1 := G.cell (i := 1) rfl
  have c2 := G.cell (i := 2) rfl
  have d0 := G2.cell (i := 0) rfl
  have d1 := G2.cell (i := 1) rfl
  have d2 := G2.cell (i := 2) rfl
  go_wp2_with fail
  have B1 := hB
  refine (checkBoth_ok (hD.behind B1) (hD'.behind B1) (Nat.le_trans HI.out (by decide)) (Nat.le_trans HI.out (by decide)) H0 H1).mono ?_
  rintro e w2 ⟨rfl, b2⟩
  have G := G.behind b2
  have G2 := G2.behind b2
  have R := R.behind b2
  have B2 := below_both B1 b2
  have z2 := b2.size
  clear c0 c1 c2 d0 d1 d2
  go_wp2_with fail
  have bd := (Below.refl (w2).heap.size (w2)).drew
  have G := G.behind bd
  have G2 := G2.behind bd
  have R := R.behind bd
  have Bc := below_both B2 bd
  have zA := zA.behind Bc
  have zA' := zA'.behind Bc
  have hD := hD.behind Bc
  have hD' := hD'.behind Bc
  have hT := hT.behind Bc
  have H01 := mul_pos' H0 H1
  have hgd : w.heap.size + 3 ≤ w2.drew.heap.size := R.lt
  clear bd B1 B2 hB b2
  have c0 := G.cell (i := 0) rfl
  have c1 := G.cell (i := 1) rfl
  have c2 := G.cell (i := 2) rfl
  have d0 := G2.cell (i := 0) rfl
  have d1 := G2.cell (i := 1) rfl
  have d2 := G2.cell (i := 2) rfl
  go_region_held3 (fun w' => w'.cell? ⟨w.heap.size, 0, none⟩ = some (.bool s) ∧ w'.cell? ⟨w.heap.size, 1, none⟩ = some (.slice a m c) ∧ w'.cell? ⟨w.heap.size, 2, none⟩ = some (.slice b n k) ∧ w'.cell? ⟨w.heap.size + 1, 0, none⟩ = some (.bool s') ∧ w'.cell? ⟨w.heap.size + 1, 1, none⟩ = some (.slice a' m' c') ∧ w'.cell? ⟨w.heap.size + 1, 2, none⟩ = some (.slice b' n' k')) (first | exact ⟨G.cell rfl, G.cell rfl, G.cell rfl, G2.cell rfl, G2.cell rfl, G2.cell rfl⟩ | exact ⟨(((G.put (by simp <;> omega) _).put (by simp <;> omega) _).put (by simp <;> omega) _).cell rfl, (((G.put (by simp <;> omega) _).put (by simp <;> omega) _).put (by simp <;> omega) _).cell rfl, (((G.put (by simp <;> omega) _).put (by simp <;> omega) _).put (by simp <;> omega) _).cell rfl, (((G2.put (by simp <;> omega) _).put (by simp <;> omega) _).put (by simp <;> omega) _).cell rfl, (((G2.put (by simp <;> omega) _).put (by simp <;> omega) _).put (by simp <;> omega) _).cell rfl, (((G2.put (by simp <;> omega) _).put (by simp <;> omega) _).put (by simp <;> omega) _).cell rfl⟩ | (refine ⟨?_, ?_, ?_, ?_, ?_, ?_⟩ <;> go_keep))
    (first
      | (go_at_call 31; (with_reducible refine (rtoldz zS hM H01 hT hi (by omega) (by omega)).mono ?_); rintro e w7 ⟨f, fa, fl, fc, ga, gl, gc, rfl, nf, nd, bb⟩; replace G := G.behind bb; replace G2 := G2.behind bb; replace R := R.behind bb; replace Bc := below_both Bc bb; have hz7 := Bc.size; have r0 := R.cell (i := 0) rfl; have r1 := R.cell (i := 1) rfl; have r2 := R.cell (i := 2) rfl; have f0 := R.f 0; have f1 := R.f 1; have f2 := R.f 2; have nf := nf.mono (show w.heap.size + 3 ≤ _ by omega); have nd := nd.mono (show w.heap.size + 3 ≤ _ by omega))
      | (go_at_call 17; (with_reducible refine (mul_num hD hD' (by omega)).mono ?_); rintro e w6 ⟨v, rfl, hM, -, bb⟩; replace zS := zS.behind bb; replace G := G.behind bb; replace G2 := G2.behind bb; replace R := R.behind bb; replace hT := hT.behind bb; replace Bc := below_both Bc bb; obtain ⟨xa, xm, xc, rfl⟩ := hM.slice; have hz6 := bb.size)
      | (go_at_call 16; (with_reducible refine (zmul zA zA' (by omega)).mono ?_); rintro e w5 ⟨t, ta, tl, tc, rfl, zS, -, bb⟩; replace hD := hD.behind bb; replace hD' := hD'.behind bb; replace G := G.behind bb; replace G2 := G2.behind bb; replace R := R.behind bb; replace hT := hT.behind bb; replace Bc := below_both Bc bb; have hz5 := bb.size))
  go_wp2
  exact bodyPost_ret (v := .tuple #[.agg #[.bool f, .slice fa fl fc, .slice ga gl gc], .int .i64 0]) (by simp [results, Tryd.results11, go_sem, r0, r1, r2]) rfl (rqend (r := w.heap.size + 1 + 1) (n := w.heap.size + 3) Bc (by omega) (by omega) nf nd rfl)
set_option maxRecDepth 100000 in
set_option maxHeartbeats 2000000 in
theorem rmul_no {s s' : Bool} {a a' b b' : Option Addr} {m c m' c' n k n' k' D D' i : Nat} {x x' : Int} {w : World} (zA : Wv w s a m c x i) (hD : Num w (.slice b n k) D i) (zA' : Wv w s' a' m' c' x' i) (hD' : Num w (.slice b' n' k') D' i) (hi : i ≤ 4398046511104) (H0 : Hid (D = 0 ∨ D' = 0)) :
    Calls Tryd.prog 11 #[.agg #[.bool s, .slice a m c, .slice b n k], .agg #[.bool s', .slice a' m' c', .slice b' n' k']] w (RQ w 0 0 9) := by
  have HI := Lib.hid hi
  have hb := dbox3 w #[.bool s, .slice a m c, .slice b n k] #[.bool s', .slice a' m' c', .slice b' n' k'] #[.bool false, .slice none 0 0, .slice none 0 0] 26 26 26
  go_enter Tryd.func11, Tryd.ntmps11
  go_wp2_with fail
  obtain ⟨hB, G, G2, R, hsz⟩ := hb _ rfl
  generalize (((w.alloc (.cells #[.bool s, .slice a m c, .slice b n k] 26)).alloc (.cells #[.bool s', .slice a' m' c', .slice b' n' k'] 26)).alloc (.cells #[.bool false, .slice none 0 0, .slice none 0 0] 26)) = W0 at hB G G2 R hsz ⊢
  clear hb
  have c0 := G.cell (i := 0) rfl
  have c1 := G.cell (i := 1) rfl
  have c2 := G.cell (i := 2) rfl
  have d0 := G2.cell (i := 0) rfl
  have d1 := G2.cell (i := 1) rfl
  have d2 := G2.cell (i := 2) rfl
  go_wp2_with fail
  have B1 := hB
  refine (checkBoth_no (hD.behind B1) (hD'.behind B1) (Nat.le_trans HI.out (by decide)) (Nat.le_trans HI.out (by decide)) H0.out).mono ?_
  rintro e w2 ⟨rfl, b2⟩
  have G := G.behind b2
  have G2 := G2.behind b2
  have R := R.behind b2
  have B2 := below_both B1 b2
  have z2 := b2.size
  clear c0 c1 c2 d0 d1 d2
  have r0 := R.cell (i := 0) rfl
  have r1 := R.cell (i := 1) rfl
  have r2 := R.cell (i := 2) rfl
  have f0 := R.f 0
  have f1 := R.f 1
  have f2 := R.f 2
  go_wp2
  exact bodyPost_ret (v := .tuple #[.agg #[.bool false, .slice none 0 0, .slice none 0 0], .int .i64 9]) (by simp [results, Tryd.results11, go_sem, r0, r1, r2]) rfl (rqnil (r := w.heap.size + 1 + 1) B2 (by omega) (Nat.lt_of_le_of_lt (Nat.zero_le _) R.lt) rfl)
set_option maxRecDepth 100000 in
set_option maxHeartbeats 2000000 in
theorem rsub_ok {s s' : Bool} {a a' b b' : Option Addr} {m c m' c' n k n' k' D D' i : Nat} {x x' : Int} {w : World} (zA : Wv w s a m c x i) (hD : Num w (.slice b n k) D i) (zA' : Wv w s' a' m' c' x' i) (hD' : Num w (.slice b' n' k') D' i) (hi : 2 * i + 1 ≤ 4398046511104) (H0 : Hid (D ≠ 0)) (H1 : Hid (D' ≠ 0)) (hT : TabOk w) :
    Calls Tryd.prog 10 #[.agg #[.bool s, .slice a m c, .slice b n k], .agg #[.bool s', .slice a' m' c', .slice b' n' k']] w (RQ w (rz (x * D' - x' * D) (D * D')) (rd (x * D' - x' * D) (D * D')) 0) := by
  have HI := Lib.hid hi
  have zN : Wv w (!s') a' m' c' (-x') i := by
    obtain ⟨M, h1, rfl⟩ := zA'
    exact ⟨M, h1, (wn_not s' M).symm⟩
  clear zA' hi
  have hb := dbox3 w #[.bool s, .slice a m c, .slice b n k] #[.bool (!s'), .slice a' m' c', .slice b' n' k'] #[.bool false, .slice none 0 0, .slice none 0 0] 26 26 26
  go_enter Tryd.func10, Tryd.ntmps10
  go_wp2_with fail
  obtain ⟨b1, G, G2, R, hsz⟩ := hb _ rfl
  generalize (((w.alloc (.cells #[.bool s, .slice a m c, .slice b n k] 26)).alloc (.cells #[.bool (!s'), .slice a' m' c', .slice b' n' k'] 26)).alloc (.cells #[.bool false, .slice none 0 0, .slice none 0 0] 26)) = W1 at b1 G G2 R hsz ⊢
  clear hb G G2
  refine (radd_ok (zA.behind b1) (hD.behind b1) (zN.behind b1) (hD'.behind b1) HI.out H0 H1 (hT.behind b1)).mono ?_
  rintro e w2 ⟨p, pa, pl, pc, qa, ql, qc, u, rfl, nf, nd, b2, hu⟩
  rw [Int.neg_mul, ← Int.sub_eq_add_neg] at nf nd
  have R := R.behind b2
  have B2 := below_both b1 b2
  have hz := R.lt
  have r0 := R.cell (i := 0) rfl
  have r1 := R.cell (i := 1) rfl
  have r2 := R.cell (i := 2) rfl
  have f0 := R.f 0
  have f1 := R.f 1
  have f2 := R.f 2
  go_wp2
  exact bodyPost_ret (v := .tuple #[.agg #[.bool p, .slice pa pl pc, .slice qa ql qc], .int .i64 u]) (by simp [results, Tryd.results10, go_sem, r0, r1, r2]) rfl (rqend (r := w.heap.size + 1 + 1) (n := W1.heap.size) B2 (by omega) (by omega) nf nd hu)
set_option maxRecDepth 100000 in
set_option maxHeartbeats 2000000 in
theorem rsub_no {s s' : Bool} {a a' b b' : Option Addr} {m c m' c' n k n' k' D D' i : Nat} {x x' : Int} {w : World} (zA : Wv w s a m c x i) (hD : Num w (.slice b n k) D i) (zA' : Wv w s' a' m' c' x' i) (hD' : Num w (.slice b' n' k') D' i) (hi : i ≤ 4398046511104) (H0 : Hid (D = 0 ∨ D' = 0)) :
    Calls Tryd.prog 10 #[.agg #[.bool s, .slice a m c, .slice b n k], .agg #[.bool s', .slice a' m' c', .slice b' n' k']] w (RQ w 0 0 9) := by
  have HI := Lib.hid hi
  have zN : Wv w (!s') a' m' c' (-x') i := by
    obtain ⟨M, h1, rfl⟩ := zA'
    exact ⟨M, h1, (wn_not s' M).symm⟩
  clear zA' hi
  have hb := dbox3 w #[.bool s, .slice a m c, .slice b n k] #[.bool (!s'), .slice a' m' c', .slice b' n' k'] #[.bool false, .slice none 0 0, .slice none 0 0] 26 26 26
  go_enter Tryd.func10, Tryd.ntmps10
  go_wp2_with fail
  obtain ⟨b1, G, G2, R, hsz⟩ := hb _ rfl
  generalize (((w.alloc (.cells #[.bool s, .slice a m c, .slice b n k] 26)).alloc (.cells #[.bool (!s'), .slice a' m' c', .slice b' n' k'] 26)).alloc (.cells #[.bool false, .slice none 0 0, .slice none 0 0] 26)) = W1 at b1 G G2 R hsz ⊢
  clear hb G G2
  refine (radd_no (zA.behind b1) (hD.behind b1) (zN.behind b1) (hD'.behind b1) HI.out H0).mono ?_
  rintro e w2 ⟨p, pa, pl, pc, qa, ql, qc, u, rfl, nf, nd, b2, hu⟩
  have R := R.behind b2
  have B2 := below_both b1 b2
  have hz := R.lt
  have r0 := R.cell (i := 0) rfl
  have r1 := R.cell (i := 1) rfl
  have r2 := R.cell (i := 2) rfl
  have f0 := R.f 0
  have f1 := R.f 1
  have f2 := R.f 2
  go_wp2
  exact bodyPost_ret (v := .tuple #[.agg #[.bool p, .slice pa pl pc, .slice qa ql qc], .int .i64 u]) (by simp [results, Tryd.results10, go_sem, r0, r1, r2]) rfl (rqend (r := w.heap.size + 1 + 1) (n := W1.heap.size) B2 (by omega) (by omega) nf nd hu)
set_option maxRecDepth 100000 in
set_option maxHeartbeats 2000000 in
theorem rcmp_ok {s s' : Bool} {a a' b b' : Option Addr} {m c m' c' n k n' k' D D' i : Nat} {x x' : Int} {w : World} (zA : Wv w s a m c x i) (hD : Num w (.slice b n k) D i) (zA' : Wv w s' a' m' c' x' i) (hD' : Num w (.slice b' n' k') D' i) (hi : 2 * i + 1 ≤ 4398046511104) (H0 : Hid (D ≠ 0)) (H1 : Hid (D' ≠ 0)) (hT : TabOk w) :
    Calls Tryd.prog 13 #[.agg #[.bool s, .slice a m c, .slice b n k], .agg #[.bool s', .slice a' m' c', .slice b' n' k']] w fun e W' => e = .returned (.tuple #[.int .i64 (cmpZ (x * D') (x' * D)), .int .i64 0]) ∧ Below w.heap.size w W' := by
  have HI : Hid (i ≤ 4398046511104) := Lib.hid (by omega)
  have hbw := fun W p pa pl pc q qa ql qc => dbox1 W #[.bool p, .slice pa pl pc, .bool q, .slice qa ql qc] 57
  have hb := dbox2 w #[.bool s, .slice a m c, .slice b n k] #[.bool s', .slice a' m' c', .slice b' n' k'] 26 26
  have hbs := fun W => dbox1 W #[.bool s, .slice a m c, .slice b n k, .bool s', .slice a' m' c', .slice b' n' k'] 55
  go_enter Tryd.func13, Tryd.ntmps13
  go_wp2_with fail
  obtain ⟨hB, G, G2, hsz⟩ := hb _ rfl
  generalize ((w.alloc (.cells #[.bool s, .slice a m c, .slice b n k] 26)).alloc (.cells #[.bool s', .slice a' m' c', .slice b' n' k'] 26)) = W0 at hB G G2 hsz ⊢
  clear hb
  have c0 := G.cell (i := 0) rfl
  have c1 := G.cell (i := 1) rfl
  have c2 := G.cell (i := 2) rfl
  have d0 := G2.cell (i := 0) rfl
  have d1 := G2.cell (i := 1) rfl
  have d2 := G2.cell (i := 2) rfl
  go_wp2_with fail
  obtain ⟨b1, S, z1⟩ := hbs W0 _ rfl
  generalize (W0.alloc (.cells #[.bool s, .slice a m c, .slice b n k, .bool s', .slice a' m' c', .slice b' n' k'] 55)) = W1 at b1 S z1 ⊢
  rw [hsz] at S z1
  have G := G.behind b1
  have G2 := G2.behind b1
  have B1 := below_both hB b1
  clear c0 c1 c2 d0 d1 d2
  have p0 := S.cell (i := 0) rfl
  have p1 := S.cell (i := 1) rfl
  have p2 := S.cell (i := 2) rfl
  have p3 := S.cell (i := 3) rfl
  have p4 := S.cell (i := 4) rfl
  have p5 := S.cell (i := 5) rfl
  go_wp2_with fail
  refine (checkBoth_ok (hD.behind B1) (hD'.behind B1) (Nat.le_trans HI.out (by decide)) (Nat.le_trans HI.out (by decide)) H0 H1).mono ?_
  rintro e w2 ⟨rfl, b2⟩
  have G := G.behind b2
  have G2 := G2.behind b2
  have S := S.behind b2
  have B2 := below_both B1 b2
  have z2 := b2.size
  clear p0 p1 p2 p3 p4 p5
  have p0 := S.cell (i := 0) rfl
  have p1 := S.cell (i := 1) rfl
  have p2 := S.cell (i := 2) rfl
  have p3 := S.cell (i := 3) rfl
  have p4 := S.cell (i := 4) rfl
  have p5 := S.cell (i := 5) rfl
  go_wp2_with fail
  refine (rlevelz (zA.behind B2) (hD.behind B2) (zA'.behind B2) (hD'.behind B2) (by omega)).mono ?_
  rintro e w3 ⟨p, pa, pl, pc, q, qa, ql, qc, rfl, nP, nQ, b3⟩
  have B3 := below_both B2 b3
  clear p0 p1 p2 p3 p4 p5 S hbs
  go_wp2_with fail
  obtain ⟨b4, U, z4⟩ := hbw w3 p pa pl pc q qa ql qc _ rfl
  generalize (w3.alloc (.cells #[.bool p, .slice pa pl pc, .bool q, .slice qa ql qc] 57)) = W4 at b4 U z4 ⊢
  generalize w3.heap.size = g at U z4 ⊢
  have nP := nP.behind b4
  have nQ := nQ.behind b4
  have B4 := below_both B3 b4
  have hA := zA.lt
  have hA' := zA'.lt
  have zP : Wv W4 p pa pl pc (x * D') (2 * i) := nP.wv (by rw [Int.natAbs_mul, Int.natAbs_natCast, Nat.two_mul]; exact pow_mul_lt hA hD'.lt)
  have zQ : Wv W4 q qa ql qc (x' * D) (2 * i) := nQ.wv (by rw [Int.natAbs_mul, Int.natAbs_natCast, Nat.two_mul]; exact pow_mul_lt hA' hD.lt)
  clear hbw nP nQ hA hA' zA zA' b4 b3 b2 b1 B1 B2 B3 hB
  have u0 := U.cell (i := 0) rfl
  have u1 := U.cell (i := 1) rfl
  have u2 := U.cell (i := 2) rfl
  have u3 := U.cell (i := 3) rfl
  go_wp2_with fail
  refine (zcmp zP zQ (by omega) (by omega)).mono ?_
  rintro e w5 ⟨rfl, b5⟩
  have B5 := below_both B4 b5
  go_wp2
  go_ret2
  exact ⟨rfl, B5⟩
set_option maxRecDepth 100000 in
set_option maxHeartbeats 2000000 in
theorem rcmp_no {s s' : Bool} {a a' b b' : Option Addr} {m c m' c' n k n' k' D D' i : Nat} {x x' : Int} {w : World} (zA : Wv w s a m c x i) (hD : Num w (.slice b n k) D i) (zA' : Wv w s' a' m' c' x' i) (hD' : Num w (.slice b' n' k') D' i) (hi : i ≤ 4398046511104) (H0 : Hid (D = 0 ∨ D' = 0)) :
    Calls Tryd.prog 13 #[.agg #[.bool s, .slice a m c, .slice b n k], .agg #[.bool s', .slice a' m' c', .slice b' n' k']] w fun e W' => e = .returned (.tuple #[.int .i64 0, .int .i64 9]) ∧ Below w.heap.size w W' := by
  have HI := Lib.hid hi
  have hb := dbox2 w #[.bool s, .slice a m c, .slice b n k] #[.bool s', .slice a' m' c', .slice b' n' k'] 26 26
  have hbs := fun W => dbox1 W #[.bool s, .slice a m c, .slice b n k, .bool s', .slice a' m' c', .slice b' n' k'] 55
  go_enter Tryd.func13, Tryd.ntmps13
  go_wp2_with fail
  obtain ⟨hB, G, G2, hsz⟩ := hb _ rfl
  generalize ((w.alloc (.cells #[.bool s, .slice a m c, .slice b n k] 26)).alloc (.cells #[.bool s', .slice a' m' c', .slice b' n' k'] 26)) = W0 at hB G G2 hsz ⊢
  clear hb
  have c0 := G.cell (i := 0) rfl
  have c1 := G.cell (i := 1) rfl
  have c2 := G.cell (i := 2) rfl
  have d0 := G2.cell (i := 0) rfl
  have d1 := G2.cell (i := 1) rfl
  have d2 := G2.cell (i := 2) rfl
  go_wp2_with fail
  obtain ⟨b1, S, z1⟩ := hbs W0 _ rfl
  generalize (W0.alloc (.cells #[.bool s, .slice a m c, .slice b n k, .bool s', .slice a' m' c', .slice b' n' k'] 55)) = W1 at b1 S z1 ⊢
  rw [hsz] at S z1
  have G := G.behind b1
  have G2 := G2.behind b1
  have B1 := below_both hB b1
  clear c0 c1 c2 d0 d1 d2
  have p0 := S.cell (i := 0) rfl
  have p1 := S.cell (i := 1) rfl
  have p2 := S.cell (i := 2) rfl
  have p3 := S.cell (i := 3) rfl
  have p4 := S.cell (i := 4) rfl
  have p5 := S.cell (i := 5) rfl
  go_wp2_with fail
  refine (checkBoth_no (hD.behind B1) (hD'.behind B1) (Nat.le_trans HI.out (by decide)) (Nat.le_trans HI.out (by decide)) H0.out).mono ?_
  rintro e w2 ⟨rfl, b2⟩
  have G := G.behind b2
  have G2 := G2.behind b2
  have S := S.behind b2
  have B2 := below_both B1 b2
  have z2 := b2.size
  clear p0 p1 p2 p3 p4 p5
  go_wp2
  go_ret2
  exact ⟨rfl, B2⟩
end Go.Proofs.YtfbnpdlkbabmfaaDoor

/- ratio's Div, Of. -/
namespace Go.Proofs.YtfbnpdlkbabmfaaDoor
open Go.RowKit Go.Shelf
attribute [local go_sem ↓] Go.wp_at_zero Go.wp_at_succ

/-- D' with the sign of x' -/
def sg (x' : Int) (D' : Nat) : Int := if x' < 0 then -(D' : Int) else D'
theorem cmpZ_ne {x : Int} (h : x ≠ 0) : ((cmpZ x 0) == 0) = false := by
  refine beq_eq_false_iff_ne.2 ?_
  unfold cmpZ
  (repeat' split) <;> omega
theorem cmpZ_zero0 {x : Int} (h : x = 0) : cmpZ x 0 = 0 := by subst h; rfl
theorem sg_wn {s : Bool} {M D : Nat} {x : Int} (h : x = wn s M) (h0 : x ≠ 0) : wn s D = sg x D := by
  subst h
  cases s <;> simp [wn, sg] at * <;> omega
theorem zsign_is {s : Bool} {a : Option Addr} {m cap : Nat} {x q : Int} {i : Nat} {w : World} (hA : Wv w s a m cap x i) (hi : i ≤ 17592186044416) (h : cmpZ x 0 = q) :
    Calls Tryd.prog 22 #[.agg #[.bool s, .slice a m cap]] w fun e W' => e = .returned (.int .i64 q) ∧ Below w.heap.size w W' := by
  subst h
  exact zsign hA hi
theorem check_is {s : Bool} {a : Option Addr} {m cap : Nat} {E : Int} {t : Bool} (h : mayB m E = t) (w : World) :
    Calls Tryd.prog 28 #[.agg #[.bool s, .slice a m cap, .int .i64 E]] w fun e W' => e = .returned (.int .i64 (if t then 0 else 9)) ∧ Below w.heap.size w W' := by
  subst h
  exact check_calls s a m cap E w
theorem two_lt' {g K : Nat} (h : g < 64 * K) : 2 ^ g < 18446744073709551616 ^ K := by
  rw [show 18446744073709551616 = 2 ^ 64 from rfl, ← Nat.pow_mul]
  exact Nat.pow_lt_pow_right (by decide) h
theorem wn_scale (s : Bool) (M g : Nat) : wn s M * 2 ^ g = wn s (M * 2 ^ g) := by
  cases s <;> simp [wn, Int.neg_mul]
set_option maxRecDepth 100000 in
set_option maxHeartbeats 2000000 in
theorem rdiv_ok {s s' : Bool} {a a' b b' : Option Addr} {m c m' c' n k n' k' D D' i : Nat} {x x' : Int} {w : World} (zA : Wv w s a m c x i) (hD : Num w (.slice b n k) D i) (zA' : Wv w s' a' m' c' x' i) (hD' : Num w (.slice b' n' k') D' i) (hi : 2 * i + 1 ≤ 4398046511104) (H0 : Hid (D ≠ 0)) (H1 : Hid (D' ≠ 0)) (hT : TabOk w) (HX : Hid (x' ≠ 0)) :
    Calls Tryd.prog 12 #[.agg #[.bool s, .slice a m c, .slice b n k], .agg #[.bool s', .slice a' m' c', .slice b' n' k']] w (RQ w (rz (x * sg x' D') (D * x'.natAbs)) (rd (x * sg x' D') (D * x'.natAbs)) 0) := by
  have HI : Hid (i ≤ 4398046511104) := Lib.hid (by omega)
  have hcs : ((cmpZ x' 0) == 0) = false := cmpZ_ne HX.out
  have zM : ∃ M', Num w (.slice a' m' c') M' i ∧ x'.natAbs = M' ∧ wn s' D' = sg x' D' := by
    obtain ⟨M', h1, h2⟩ := zA'
    exact ⟨M', h1, by rw [h2, wn_abs], sg_wn h2 HX.out⟩
  obtain ⟨M', hM, hMx, hsg⟩ := zM
  have HM : Hid (M' ≠ 0) := Lib.hid (by have := HX.out; omega)
  rw [← hsg, hMx]
  have hb := dbox3 w #[.bool s, .slice a m c, .slice b n k] #[.bool s', .slice a' m' c', .slice b' n' k'] #[.bool false, .slice none 0 0, .slice none 0 0] 26 26 26
  go_enter Tryd.func12, Tryd.ntmps12
  go_wp2_with fail
  obtain ⟨hB, G, G2, R, hsz⟩ := hb _ rfl
  generalize (((w.alloc (.cells #[.bool s, .slice a m c, .slice b n k] 26)).alloc (.cells #[.bool s', .slice a' m' c', .slice b' n' k'] 26)).alloc (.cells #[.bool false, .slice none 0 0, .slice none 0 0] 26)) = W0 at hB G G2 R hsz ⊢
  clear hb
  have c0 := G.cell (i := 0) rfl
  have c1 := G.cell (i := 1) rfl
  have c2 := G.cell (i := 2) rfl
  have d0 := G2.cell (i := 0) rfl
  have d1 := G2.cell (i := 1) rfl
  have d2 := G2.cell (i := 2) rfl
  go_wp2_with fail
  have B1 := hB
  refine (checkBoth_ok (hD.behind B1) (hD'.behind B1) (Nat.le_trans HI.out (by decide)) (Nat.le_trans HI.out (by decide)) H0 H1).mono ?_
  rintro e w2 ⟨rfl, b2⟩
  have G := G.behind b2
  have G2 := G2.behind b2
  have R := R.behind b2
  have B2 := below_both B1 b2
  have z2 := b2.size
  clear c0 c1 c2 d0 d1 d2
  have c0 := G.cell (i := 0) rfl
  have c1 := G.cell (i := 1) rfl
  have c2 := G.cell (i := 2) rfl
  have d0 := G2.cell (i := 0) rfl
  have d1 := G2.cell (i := 1) rfl
  have d2 := G2.cell (i := 2) rfl
  go_wp2_with fail
  refine (zsign_is (zA'.behind B2) (Nat.le_trans HI.out (by decide)) rfl).mono ?_
  rintro e w3 ⟨rfl, b3⟩
  have G := G.behind b3
  have G2 := G2.behind b3
  have R := R.behind b3
  have B3 := below_both B2 b3
  have z3 := b3.size
  clear c0 c1 c2 d0 d1 d2
  have c0 := G.cell (i := 0) rfl
  have c1 := G.cell (i := 1) rfl
  have c2 := G.cell (i := 2) rfl
  have d0 := G2.cell (i := 0) rfl
  have d1 := G2.cell (i := 1) rfl
  have d2 := G2.cell (i := 2) rfl
  go_wp2_with fail
  refine (rmul_ok (zA.behind B3) (hD.behind B3) (⟨_, hD'.behind B3, rfl⟩ : Wv w3 s' b' n' k' (wn s' D') i) (hM.behind B3) hi H0 HM (hT.behind B3)).mono ?_
  rintro e w4 ⟨p, pa, pl, pc, qa, ql, qc, u, rfl, nf, nd, b4, hu⟩
  have R := R.behind b4
  have B4 := below_both B3 b4
  have hz := R.lt
  have z2 := b2.size
  have r0 := R.cell (i := 0) rfl
  have r1 := R.cell (i := 1) rfl
  have r2 := R.cell (i := 2) rfl
  have f0 := R.f 0
  have f1 := R.f 1
  have f2 := R.f 2
  go_wp2
  exact bodyPost_ret (v := .tuple #[.agg #[.bool p, .slice pa pl pc, .slice qa ql qc], .int .i64 u]) (by simp [results, Tryd.results12, go_sem, r0, r1, r2]) rfl (rqend (r := w.heap.size + 1 + 1) (n := w3.heap.size) B4 (by omega) (by omega) nf nd hu)
set_option maxRecDepth 100000 in
set_option maxHeartbeats 2000000 in
theorem rdiv_zero {s s' : Bool} {a a' b b' : Option Addr} {m c m' c' n k n' k' D D' i : Nat} {x x' : Int} {w : World} (zA : Wv w s a m c x i) (hD : Num w (.slice b n k) D i) (zA' : Wv w s' a' m' c' x' i) (hD' : Num w (.slice b' n' k') D' i) (hi : 2 * i + 1 ≤ 4398046511104) (H0 : Hid (D ≠ 0)) (H1 : Hid (D' ≠ 0)) (hT : TabOk w) (HX : Hid (x' = 0)) :
    Calls Tryd.prog 12 #[.agg #[.bool s, .slice a m c, .slice b n k], .agg #[.bool s', .slice a' m' c', .slice b' n' k']] w (RQ w 0 0 7) := by
  have HI : Hid (i ≤ 4398046511104) := Lib.hid (by omega)
  have hb := dbox3 w #[.bool s, .slice a m c, .slice b n k] #[.bool s', .slice a' m' c', .slice b' n' k'] #[.bool false, .slice none 0 0, .slice none 0 0] 26 26 26
  go_enter Tryd.func12, Tryd.ntmps12
  go_wp2_with fail
  obtain ⟨hB, G, G2, R, hsz⟩ := hb _ rfl
  generalize (((w.alloc (.cells #[.bool s, .slice a m c, .slice b n k] 26)).alloc (.cells #[.bool s', .slice a' m' c', .slice b' n' k'] 26)).alloc (.cells #[.bool false, .slice none 0 0, .slice none 0 0] 26)) = W0 at hB G G2 R hsz ⊢
  clear hb
  have c0 := G.cell (i := 0) rfl
  have c1 := G.cell (i := 1) rfl
  have c2 := G.cell (i := 2) rfl
  have d0 := G2.cell (i := 0) rfl
  have d1 := G2.cell (i := 1) rfl
  have d2 := G2.cell (i := 2) rfl
  go_wp2_with fail
  have B1 := hB
  refine (checkBoth_ok (hD.behind B1) (hD'.behind B1) (Nat.le_trans HI.out (by decide)) (Nat.le_trans HI.out (by decide)) H0 H1).mono ?_
  rintro e w2 ⟨rfl, b2⟩
  have G := G.behind b2
  have G2 := G2.behind b2
  have R := R.behind b2
  have B2 := below_both B1 b2
  have z2 := b2.size
  clear c0 c1 c2 d0 d1 d2
  have c0 := G.cell (i := 0) rfl
  have c1 := G.cell (i := 1) rfl
  have c2 := G.cell (i := 2) rfl
  have d0 := G2.cell (i := 0) rfl
  have d1 := G2.cell (i := 1) rfl
  have d2 := G2.cell (i := 2) rfl
  go_wp2_with fail
  refine (zsign_is (zA'.behind B2) (Nat.le_trans HI.out (by decide)) (cmpZ_zero0 HX.out)).mono ?_
  rintro e w3 ⟨rfl, b3⟩
  have G := G.behind b3
  have G2 := G2.behind b3
  have R := R.behind b3
  have B3 := below_both B2 b3
  have z3 := b3.size
  clear c0 c1 c2 d0 d1 d2
  have r0 := R.cell (i := 0) rfl
  have r1 := R.cell (i := 1) rfl
  have r2 := R.cell (i := 2) rfl
  have f0 := R.f 0
  have f1 := R.f 1
  have f2 := R.f 2
  go_wp2
  exact bodyPost_ret (v := .tuple #[.agg #[.bool false, .slice none 0 0, .slice none 0 0], .int .i64 7]) (by simp [results, Tryd.results12, go_sem, r0, r1, r2]) rfl (rqnil (r := w.heap.size + 1 + 1) B3 (by omega) (Nat.lt_of_le_of_lt (Nat.zero_le _) R.lt) rfl)
set_option maxRecDepth 100000 in
set_option maxHeartbeats 2000000 in
theorem rdiv_no {s s' : Bool} {a a' b b' : Option Addr} {m c m' c' n k n' k' D D' i : Nat} {x x' : Int} {w : World} (zA : Wv w s a m c x i) (hD : Num w (.slice b n k) D i) (zA' : Wv w s' a' m' c' x' i) (hD' : Num w (.slice b' n' k') D' i) (hi : i ≤ 4398046511104) (H0 : Hid (D = 0 ∨ D' = 0)) :
    Calls Tryd.prog 12 #[.agg #[.bool s, .slice a m c, .slice b n k], .agg #[.bool s', .slice a' m' c', .slice b' n' k']] w (RQ w 0 0 9) := by
  have HI : Hid (i ≤ 4398046511104) := Lib.hid (by omega)
  have hb := dbox3 w #[.bool s, .slice a m c, .slice b n k] #[.bool s', .slice a' m' c', .slice b' n' k'] #[.bool false, .slice none 0 0, .slice none 0 0] 26 26 26
  go_enter Tryd.func12, Tryd.ntmps12
  go_wp2_with fail
  obtain ⟨hB, G, G2, R, hsz⟩ := hb _ rfl
  generalize (((w.alloc (.cells #[.bool s, .slice a m c, .slice b n k] 26)).alloc (.cells #[.bool s', .slice a' m' c', .slice b' n' k'] 26)).alloc (.cells #[.bool false, .slice none 0 0, .slice none 0 0] 26)) = W0 at hB G G2 R hsz ⊢
  clear hb
  have c0 := G.cell (i := 0) rfl
  have c1 := G.cell (i := 1) rfl
  have c2 := G.cell (i := 2) rfl
  have d0 := G2.cell (i := 0) rfl
  have d1 := G2.cell (i := 1) rfl
  have d2 := G2.cell (i := 2) rfl
  go_wp2_with fail
  have B1 := hB
  refine (checkBoth_no (hD.behind B1) (hD'.behind B1) (Nat.le_trans HI.out (by decide)) (Nat.le_trans HI.out (by decide)) H0.out).mono ?_
  rintro e w2 ⟨rfl, b2⟩
  have G := G.behind b2
  have G2 := G2.behind b2
  have R := R.behind b2
  have B2 := below_both B1 b2
  have z2 := b2.size
  clear c0 c1 c2 d0 d1 d2
  have r0 := R.cell (i := 0) rfl
  have r1 := R.cell (i := 1) rfl
  have r2 := R.cell (i := 2) rfl
  have f0 := R.f 0
  have f1 := R.f 1
  have f2 := R.f 2
  go_wp2
  exact bodyPost_ret (v := .tuple #[.agg #[.bool false, .slice none 0 0, .slice none 0 0], .int .i64 9]) (by simp [results, Tryd.results12, go_sem, r0, r1, r2]) rfl (rqnil (r := w.heap.size + 1 + 1) B2 (by omega) (Nat.lt_of_le_of_lt (Nat.zero_le _) R.lt) rfl)
end Go.Proofs.YtfbnpdlkbabmfaaDoor

/- ratio's Of. -/
namespace Go.Proofs.YtfbnpdlkbabmfaaDoor
open Go.RowKit Go.Shelf
attribute [local go_sem ↓] Go.wp_at_zero Go.wp_at_succ

set_option maxRecDepth 100000 in
set_option maxHeartbeats 2000000 in
theorem rof_no {s : Bool} {a : Option Addr} {m c i : Nat} {E x : Int} {w : World} (HM : Hid (mayB m E = false)) :
    Calls Tryd.prog 24 #[.agg #[.bool s, .slice a m c, .int .i64 E]] w (RQ w 0 0 9) := by
  have hb := dbox2 w #[.bool s, .slice a m c, .int .i64 E] #[.bool false, .slice none 0 0, .slice none 0 0] 44 26
  go_enter Tryd.func24, Tryd.ntmps24
  go_wp2_with fail
  obtain ⟨hB, G, R, hsz⟩ := hb _ rfl
  generalize ((w.alloc (.cells #[.bool s, .slice a m c, .int .i64 E] 44)).alloc (.cells #[.bool false, .slice none 0 0, .slice none 0 0] 26)) = W0 at hB G R hsz ⊢
  clear hb
  have c0 := G.cell (i := 0) rfl
  have c1 := G.cell (i := 1) rfl
  have c2 := G.cell (i := 2) rfl
  go_wp2_with fail
  refine (check_is (s := s) (a := a) (cap := c) HM.out W0).mono ?_
  rintro e w1 ⟨rfl, b1⟩
  have G := G.behind b1
  have R := R.behind b1
  have B1 := below_both hB b1
  have z1 := b1.size
  clear c0 c1 c2
  have r0 := R.cell (i := 0) rfl
  have r1 := R.cell (i := 1) rfl
  have r2 := R.cell (i := 2) rfl
  have f0 := R.f 0
  have f1 := R.f 1
  have f2 := R.f 2
  go_wp2
  exact bodyPost_ret (v := .tuple #[.agg #[.bool false, .slice none 0 0, .slice none 0 0], .int .i64 9]) (by simp [results, Tryd.results24, go_sem, r0, r1, r2]) rfl (rqnil (r := w.heap.size + 1) B1 (by omega) (Nat.lt_of_le_of_lt (Nat.zero_le _) R.lt) rfl)
set_option maxRecDepth 100000 in
set_option maxHeartbeats 2000000 in
theorem rof_neg {s : Bool} {a : Option Addr} {m c i : Nat} {E x : Int} {w : World} (zA : Wv w s a m c x i) (hi : i ≤ 4096) (HM : Hid (mayB m E = true)) (g : Nat) (hE : E = -(g : Int)) (hg : 0 < g) (hT : TabOk w) :
    Calls Tryd.prog 24 #[.agg #[.bool s, .slice a m c, .int .i64 E]] w (RQ w (rz x (2 ^ g)) (rd x (2 ^ g)) 0) := by
  have hb := dbox2 w #[.bool s, .slice a m c, .int .i64 E] #[.bool false, .slice none 0 0, .slice none 0 0] 44 26
  have hE1 := mayB_iff.1 HM.out
  have hg2 : Hid (g ≤ 16384) := Lib.hid (by omega)
  obtain ⟨K, hK⟩ : ∃ K : Nat, K = 257 := ⟨_, rfl⟩
  have HP : Hid (2 ^ g < 18446744073709551616 ^ K) := Lib.hid (two_lt' (by have := hg2.out; omega))
  have hlt : decide (E < 0) = true := decide_eq_true (by omega)
  have hw : IntKind.i64.wrap (-E) = (g : Int) := by rw [IntWalk.i64_in _ (by omega)]; omega
  have hbo := fun W => num_one W 1 (by decide)
  have hbp := fun W => bel_alloc W (.cells #[.int .u64 ((1 : Nat) : Int)] 47)
  clear hE1 hE hg
  go_enter Tryd.func24, Tryd.ntmps24
  go_wp2_with fail
  obtain ⟨hB, G, R, hsz⟩ := hb _ rfl
  generalize ((w.alloc (.cells #[.bool s, .slice a m c, .int .i64 E] 44)).alloc (.cells #[.bool false, .slice none 0 0, .slice none 0 0] 26)) = W0 at hB G R hsz ⊢
  clear hb
  have c0 := G.cell (i := 0) rfl
  have c1 := G.cell (i := 1) rfl
  have c2 := G.cell (i := 2) rfl
  go_wp2_with fail
  refine (check_is (s := s) (a := a) (cap := c) HM.out W0).mono ?_
  rintro e w1 ⟨rfl, b1⟩
  have G := G.behind b1
  have R := R.behind b1
  have B1 := below_both hB b1
  have z1 := b1.size
  clear c0 c1 c2
  have c0 := G.cell (i := 0) rfl
  have c1 := G.cell (i := 1) rfl
  have c2 := G.cell (i := 2) rfl
  have d2 : (w1.alloc (.cells #[.int .u64 1] 47)).cell? ⟨w.heap.size, 2, none⟩ = some (.int .i64 E) := (G.behind (bel_alloc _ _)).cell rfl
  go_wp2_with fail
  have b2 := hbp w1
  have hN := hbo w1
  generalize (w1.alloc (.cells #[.int .u64 ((1 : Nat) : Int)] 47)) = W2 at b2 hN ⊢
  have G := G.behind b2
  have R := R.behind b2
  refine (shl_num hN (by omega) (m := g) (Nat.le_trans hg2.out (by decide))).mono ?_
  rintro e w3 ⟨v, rfl, nt, b3⟩
  rw [Nat.one_mul] at nt
  have hP := nt.num HP.out
  obtain ⟨va, vc, rfl, -⟩ := nt.slice
  generalize (digs 18446744073709551616 (2 ^ g)).length = vl at *
  have G := G.behind b3
  have R := R.behind b3
  have B3 := below_both (below_both B1 b2) b3
  have z3 := b3.size
  have z2 := b2.size
  clear c0 c1 c2 d2
  have c0 := G.cell (i := 0) rfl
  have c1 := G.cell (i := 1) rfl
  have c2 := G.cell (i := 2) rfl
  go_wp2_with fail
  refine (rtoldz (l := 4096) (zA.behind B3) hP (Lib.hid (Nat.pos_iff_ne_zero.1 (Nat.pow_pos (by decide)))) (hT.behind B3) (by omega) hi (by omega)).mono ?_
  rintro e w4 ⟨p, pa, pl, pc, qa, ql, qc, rfl, nf, nd, b4⟩
  have R := R.behind b4
  have B4 := below_both B3 b4
  have r0 := R.cell (i := 0) rfl
  have r1 := R.cell (i := 1) rfl
  have r2 := R.cell (i := 2) rfl
  have f0 := R.f 0
  have f1 := R.f 1
  have f2 := R.f 2
  go_wp2
  exact bodyPost_ret (v := .tuple #[.agg #[.bool p, .slice pa pl pc, .slice qa ql qc], .int .i64 0]) (by simp [results, Tryd.results24, go_sem, r0, r1, r2]) rfl (rqend (r := w.heap.size + 1) (n := w3.heap.size) B4 (by omega) (by omega) nf nd rfl)
set_option maxRecDepth 100000 in
set_option maxHeartbeats 2000000 in
theorem rof_pos {s : Bool} {a : Option Addr} {m c i : Nat} {E x : Int} {w : World} (zA : Wv w s a m c x i) (hi : i ≤ 4096) (HM : Hid (mayB m E = true)) (g : Nat) (hE : E = (g : Int)) (hT : TabOk w) :
    Calls Tryd.prog 24 #[.agg #[.bool s, .slice a m c, .int .i64 E]] w (RQ w (rz (x * 2 ^ g) 1) (rd (x * 2 ^ g) 1) 0) := by
  have hb := dbox2 w #[.bool s, .slice a m c, .int .i64 E] #[.bool false, .slice none 0 0, .slice none 0 0] 44 26
  have hE1 := mayB_iff.1 HM.out
  have hg2 : Hid (g ≤ 16384) := Lib.hid (by omega)
  obtain ⟨K, hK⟩ : ∃ K : Nat, K = 257 := ⟨_, rfl⟩
  have HP : Hid (2 ^ g < 18446744073709551616 ^ K) := Lib.hid (two_lt' (by have := hg2.out; omega))
  subst hE
  obtain ⟨M, hA, rfl⟩ := zA
  rw [wn_scale]
  have hlt : decide ((g : Int) < 0) = false := decide_eq_false (by omega)
  have hbo := fun W => num_one W 1 (by decide)
  have hbp := fun W => bel_alloc W (.cells #[.int .u64 ((1 : Nat) : Int)] 47)
  clear hE1
  go_enter Tryd.func24, Tryd.ntmps24
  go_wp2_with fail
  obtain ⟨hB, G, R, hsz⟩ := hb _ rfl
  generalize ((w.alloc (.cells #[.bool s, .slice a m c, .int .i64 (g : Int)] 44)).alloc (.cells #[.bool false, .slice none 0 0, .slice none 0 0] 26)) = W0 at hB G R hsz ⊢
  clear hb
  have c0 := G.cell (i := 0) rfl
  have c1 := G.cell (i := 1) rfl
  have c2 := G.cell (i := 2) rfl
  go_wp2_with fail
  refine (check_is (s := s) (a := a) (cap := c) HM.out W0).mono ?_
  rintro e w1 ⟨rfl, b1⟩
  have G := G.behind b1
  have R := R.behind b1
  have B1 := below_both hB b1
  have z1 := b1.size
  clear c0 c1 c2
  have c0 := G.cell (i := 0) rfl
  have c1 := G.cell (i := 1) rfl
  have c2 := G.cell (i := 2) rfl
  go_wp2_with fail
  refine (shl_num (hA.behind B1) (by omega) (m := g) (Nat.le_trans hg2.out (by decide))).mono ?_
  rintro e w3 ⟨v, rfl, nt, b3⟩
  have hP := nt.num (pow_mul_lt hA.lt HP.out)
  obtain ⟨va, vc, rfl, -⟩ := nt.slice
  generalize (digs 18446744073709551616 (M * 2 ^ g)).length = vl at *
  have G := G.behind b3
  have R := R.behind b3
  have B3 := below_both B1 b3
  have z3 := b3.size
  clear b1
  clear c0 c1 c2
  have c0 := G.cell (i := 0) rfl
  have c1 := G.cell (i := 1) rfl
  have c2 := G.cell (i := 2) rfl
  have n0 := World.new_ne _ _ c0
  go_wp2_with fail
  have b5 := hbp w3
  have hN := hbo w3
  generalize (w3.alloc (.cells #[.int .u64 ((1 : Nat) : Int)] 47)) = W5 at b5 hN ⊢
  have B5 := below_both B3 b5
  have zP : Wv W5 s va vl vc (wn s (M * 2 ^ g)) (i + K) := ⟨_, hP.behind b5, rfl⟩
  have z5 := b5.size
  refine (rtoldz (l := 4400) zP hN (Lib.hid (by decide)) (hT.behind B5) (by omega) (by omega) (by omega)).mono ?_
  rintro e w4 ⟨p, pa, pl, pc, qa, ql, qc, rfl, nf, nd, b4⟩
  have R := (R.behind b5).behind b4
  have B4 := below_both B5 b4
  have r0 := R.cell (i := 0) rfl
  have r1 := R.cell (i := 1) rfl
  have r2 := R.cell (i := 2) rfl
  have f0 := R.f 0
  have f1 := R.f 1
  have f2 := R.f 2
  go_wp2
  exact bodyPost_ret (v := .tuple #[.agg #[.bool p, .slice pa pl pc, .slice qa ql qc], .int .i64 0]) (by simp [results, Tryd.results24, go_sem, r0, r1, r2]) rfl (rqend (r := w.heap.size + 1) (n := W5.heap.size) B4 (by omega) (by omega) nf nd rfl)
end Go.Proofs.YtfbnpdlkbabmfaaDoor
