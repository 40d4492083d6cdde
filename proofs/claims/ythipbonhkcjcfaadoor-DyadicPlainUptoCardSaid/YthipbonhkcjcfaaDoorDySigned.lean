/- vernierlaw04's signed and is: a sum of two numbers with signs; is an answer one? -/
import Derived.Test.YthipbonhkcjcfaaDoorDyLTold
import Derived.Test.YthipbonhkcjcfaaDoorDyUp
import Derived.Test.YthipbonhkcjcfaaDoorDyRing
namespace Go.Proofs.YthipbonhkcjcfaaDoor
open Go.RowKit Go.Shelf
attribute [local go_sem ↓] Go.wp_at_zero Go.wp_at_succ

theorem LP.as {w : World} {s s' : Bool} {N N' : Nat} {E : Int} {good : Prop} {e : Ending} {W' : World} (h : LP w s N E good e W') (hN : N = N') (hs : N ≠ 0 → s = s') : LP w s' N' E good e W' := by
  subst hN
  obtain ⟨a, m, c, t, n, x, q, h1, h2, h3, h4, h5⟩ := h
  exact ⟨a, m, c, t, n, x, q, h1, h2, h3, h4, by rw [← tld_sign hs]; exact h5⟩
theorem lend {w W : World} {n r N : Nat} {ta : Option Addr} {tm tc : Nat} {s : Bool} {x : Int} {q : Bool} {s' : Bool} {N' : Nat} {E : Int} {good : Prop} (hB : Below w.heap.size w W) (hr : w.heap.size ≤ r) (hn : r < n) (nt : New n W (.slice ta tm tc) (digs 18446744073709551616 N)) (hle : N ≤ N') (h : good → tld s' N' E = ⟨s, N, x⟩ ∧ q = fits ⟨s, N, x⟩) :
    LP w s' N' E good (.returned (.tuple #[.agg #[.bool s, .slice ta tm tc, .int .i64 x], .bool q])) (((W.setCell ⟨r, 0, none⟩ (.bool s)).setCell ⟨r, 1, none⟩ (.slice ta tm tc)).setCell ⟨r, 2, none⟩ (.int .i64 x)) :=
  ⟨_, _, _, _, _, _, _, rfl, (((nt.put hn _).put hn _).put hn _).mono (by omega), set3 hB hr _ _ _, hle, h⟩
theorem rsum_le {w : World} {va vb : Value} {X Y k : Nat} (hA : RN w va X k) (hB : RN w vb Y k) (hk : k ≤ 4398046511104) :
    Calls Tryd.prog 35 #[va, vb] w fun e W' => ∃ v, e = .returned v ∧ RN W' v (X + Y) (k + k + 1) ∧ Below w.heap.size w W' := radd_num hA hB hk hk
set_option maxRecDepth 100000 in
set_option maxHeartbeats 2000000 in
theorem lsigned_true {v v' : Value} {X Y k : Nat} {E : Int} {w : World} (good : Prop) (hg : good → -1048576 ≤ E ∧ E ≤ 1048576) (hA : RN w v X k) (hB : RN w v' Y k) (hk : k ≤ 1099511627776) (hE1 : -9223372036854775808 ≤ E) (hE2 : E < 9223372036854775808) :
    Calls Tryd.prog 16 #[.bool true, v, .bool true, v', .int .i64 E] w (LP w true (X + Y) E good) := by
  have hb := dbox1 w #[.bool false, .slice none 0 0, .int .i64 0] 24 _ rfl
  obtain ⟨ya, yc, rfl, -⟩ := hA.slice
  obtain ⟨za, zc, rfl, -⟩ := hB.slice
  generalize (digs 65536 X).length = yl at hA ⊢
  generalize (digs 65536 Y).length = zl at hB ⊢
  go_enter Tryd.func16, Tryd.ntmps16
  go_wp2_with fail
  obtain ⟨hW, R, hsz⟩ := hb
  generalize (w.alloc (.cells #[.bool false, .slice none 0 0, .int .i64 0] 24)) = W0 at hW R hsz ⊢
  have hA := hA.behind hW
  have hB := hB.behind hW
  refine (rsum_le hA hB (by omega)).mono ?_
  rintro e w2 ⟨v2, rfl, r2, b2⟩
  have R := R.behind b2
  have R2 := R
  have B2 := below_both hW b2
  obtain ⟨xa, xc, rfl, -⟩ := r2.slice
  generalize (digs 65536 (X + Y)).length = xl at r2 ⊢
  go_wp2_with fail
  refine (ltold (s := true) good hg r2 (by omega) hE1 hE2).mono ?_
  rintro e w9 ⟨ta, tm, tc, ts, tn, tx, tq, rfl, nt, b9, hle, hR⟩
  have R := R.behind b9
  have B9 := below_both B2 b9
  have z2 := R2.lt
  have HR := Lib.hid hR
  have HL := Lib.hid hle
  clear hR hle hg r2
  have r0 := R.cell (i := 0) rfl
  have r1 := R.cell (i := 1) rfl
  have r2 := R.cell (i := 2) rfl
  have f0 := R.f 0
  have f1 := R.f 1
  have f2 := R.f 2
  go_wp2
  refine bodyPost_ret (v := .tuple #[.agg #[.bool ts, .slice ta tm tc, .int .i64 tx], .bool tq]) (by simp [results, Tryd.results16, go_sem, r0, r1, r2]) rfl
    (lend (r := w.heap.size) B9 (by omega) (by omega) nt HL.out HR.out)
set_option maxRecDepth 100000 in
set_option maxHeartbeats 2000000 in
theorem lsigned_false {v v' : Value} {X Y k : Nat} {E : Int} {w : World} (good : Prop) (hg : good → -1048576 ≤ E ∧ E ≤ 1048576) (hA : RN w v X k) (hB : RN w v' Y k) (hk : k ≤ 1099511627776) (hE1 : -9223372036854775808 ≤ E) (hE2 : E < 9223372036854775808) :
    Calls Tryd.prog 16 #[.bool false, v, .bool false, v', .int .i64 E] w (LP w false (X + Y) E good) := by
  have hb := dbox1 w #[.bool false, .slice none 0 0, .int .i64 0] 24 _ rfl
  obtain ⟨ya, yc, rfl, -⟩ := hA.slice
  obtain ⟨za, zc, rfl, -⟩ := hB.slice
  generalize (digs 65536 X).length = yl at hA ⊢
  generalize (digs 65536 Y).length = zl at hB ⊢
  go_enter Tryd.func16, Tryd.ntmps16
  go_wp2_with fail
  obtain ⟨hW, R, hsz⟩ := hb
  generalize (w.alloc (.cells #[.bool false, .slice none 0 0, .int .i64 0] 24)) = W0 at hW R hsz ⊢
  have hA := hA.behind hW
  have hB := hB.behind hW
  refine (rsum_le hA hB (by omega)).mono ?_
  rintro e w2 ⟨v2, rfl, r2, b2⟩
  have R := R.behind b2
  have R2 := R
  have B2 := below_both hW b2
  obtain ⟨xa, xc, rfl, -⟩ := r2.slice
  generalize (digs 65536 (X + Y)).length = xl at r2 ⊢
  go_wp2_with fail
  refine (ltold (s := false) good hg r2 (by omega) hE1 hE2).mono ?_
  rintro e w9 ⟨ta, tm, tc, ts, tn, tx, tq, rfl, nt, b9, hle, hR⟩
  have R := R.behind b9
  have B9 := below_both B2 b9
  have z2 := R2.lt
  have HR := Lib.hid hR
  have HL := Lib.hid hle
  clear hR hle hg r2
  have r0 := R.cell (i := 0) rfl
  have r1 := R.cell (i := 1) rfl
  have r2 := R.cell (i := 2) rfl
  have f0 := R.f 0
  have f1 := R.f 1
  have f2 := R.f 2
  go_wp2
  refine bodyPost_ret (v := .tuple #[.agg #[.bool ts, .slice ta tm tc, .int .i64 tx], .bool tq]) (by simp [results, Tryd.results16, go_sem, r0, r1, r2]) rfl
    (lend (r := w.heap.size) B9 (by omega) (by omega) nt HL.out HR.out)
set_option maxRecDepth 100000 in
set_option maxHeartbeats 2000000 in
theorem lsigned_true_lt {v v' : Value} {X Y k : Nat} {E : Int} {w : World} (good : Prop) (hg : good → -1048576 ≤ E ∧ E ≤ 1048576) (hA : RN w v X k) (hB : RN w v' Y k) (hk : k ≤ 1099511627776) (hE1 : -9223372036854775808 ≤ E) (hE2 : E < 9223372036854775808) (hc : X < Y) :
    Calls Tryd.prog 16 #[.bool true, v, .bool false, v', .int .i64 E] w (LP w false (dist X Y) E good) := by
  have hcd : decide (cmpN X Y < 0) = true := by
    unfold cmpN
    simp [hc]
  have hb := dbox1 w #[.bool false, .slice none 0 0, .int .i64 0] 24 _ rfl
  obtain ⟨ya, yc, rfl, -⟩ := hA.slice
  obtain ⟨za, zc, rfl, -⟩ := hB.slice
  generalize (digs 65536 X).length = yl at hA ⊢
  generalize (digs 65536 Y).length = zl at hB ⊢
  go_enter Tryd.func16, Tryd.ntmps16
  go_wp2_with fail
  obtain ⟨hW, R, hsz⟩ := hb
  generalize (w.alloc (.cells #[.bool false, .slice none 0 0, .int .i64 0] 24)) = W0 at hW R hsz ⊢
  have hA := hA.behind hW
  have hB := hB.behind hW
  refine (rcmp_num hA hB (by omega) (by omega)).mono ?_
  rintro e w1 ⟨rfl, b1⟩
  have hA := hA.behind b1
  have hB := hB.behind b1
  have R := R.behind b1
  have B1 := below_both hW b1
  generalize cmpN X Y = c at hcd ⊢
  go_wp2_with fail
  refine (rsub_num hA hB (by omega) (by omega)).mono ?_
  rintro e w2 ⟨v2, rfl, r2, b2⟩
  have R := R.behind b2
  have R2 := R
  have B2 := below_both B1 b2
  obtain ⟨xa, xc, rfl, -⟩ := r2.slice
  generalize (digs 65536 (dist X Y)).length = xl at r2 ⊢
  go_wp2_with fail
  refine (ltold (s := false) good hg r2 (by omega) hE1 hE2).mono ?_
  rintro e w9 ⟨ta, tm, tc, ts, tn, tx, tq, rfl, nt, b9, hle, hR⟩
  have R := R.behind b9
  have B9 := below_both B2 b9
  have z2 := R2.lt
  have HR := Lib.hid hR
  have HL := Lib.hid hle
  clear hR hle hg r2
  have r0 := R.cell (i := 0) rfl
  have r1 := R.cell (i := 1) rfl
  have r2 := R.cell (i := 2) rfl
  have f0 := R.f 0
  have f1 := R.f 1
  have f2 := R.f 2
  go_wp2
  refine bodyPost_ret (v := .tuple #[.agg #[.bool ts, .slice ta tm tc, .int .i64 tx], .bool tq]) (by simp [results, Tryd.results16, go_sem, r0, r1, r2]) rfl
    (lend (r := w.heap.size) B9 (by omega) (by omega) nt HL.out HR.out)
set_option maxRecDepth 100000 in
set_option maxHeartbeats 2000000 in
theorem lsigned_true_ge {v v' : Value} {X Y k : Nat} {E : Int} {w : World} (good : Prop) (hg : good → -1048576 ≤ E ∧ E ≤ 1048576) (hA : RN w v X k) (hB : RN w v' Y k) (hk : k ≤ 1099511627776) (hE1 : -9223372036854775808 ≤ E) (hE2 : E < 9223372036854775808) (hc : Y ≤ X) :
    Calls Tryd.prog 16 #[.bool true, v, .bool false, v', .int .i64 E] w (LP w true (dist X Y) E good) := by
  have hcd : decide (cmpN X Y < 0) = false := by
    unfold cmpN
    rw [if_neg (by omega)]; split <;> simp
  have hb := dbox1 w #[.bool false, .slice none 0 0, .int .i64 0] 24 _ rfl
  obtain ⟨ya, yc, rfl, -⟩ := hA.slice
  obtain ⟨za, zc, rfl, -⟩ := hB.slice
  generalize (digs 65536 X).length = yl at hA ⊢
  generalize (digs 65536 Y).length = zl at hB ⊢
  go_enter Tryd.func16, Tryd.ntmps16
  go_wp2_with fail
  obtain ⟨hW, R, hsz⟩ := hb
  generalize (w.alloc (.cells #[.bool false, .slice none 0 0, .int .i64 0] 24)) = W0 at hW R hsz ⊢
  have hA := hA.behind hW
  have hB := hB.behind hW
  refine (rcmp_num hA hB (by omega) (by omega)).mono ?_
  rintro e w1 ⟨rfl, b1⟩
  have hA := hA.behind b1
  have hB := hB.behind b1
  have R := R.behind b1
  have B1 := below_both hW b1
  generalize cmpN X Y = c at hcd ⊢
  go_wp2_with fail
  refine (rsub_num hA hB (by omega) (by omega)).mono ?_
  rintro e w2 ⟨v2, rfl, r2, b2⟩
  have R := R.behind b2
  have R2 := R
  have B2 := below_both B1 b2
  obtain ⟨xa, xc, rfl, -⟩ := r2.slice
  generalize (digs 65536 (dist X Y)).length = xl at r2 ⊢
  go_wp2_with fail
  refine (ltold (s := true) good hg r2 (by omega) hE1 hE2).mono ?_
  rintro e w9 ⟨ta, tm, tc, ts, tn, tx, tq, rfl, nt, b9, hle, hR⟩
  have R := R.behind b9
  have B9 := below_both B2 b9
  have z2 := R2.lt
  have HR := Lib.hid hR
  have HL := Lib.hid hle
  clear hR hle hg r2
  have r0 := R.cell (i := 0) rfl
  have r1 := R.cell (i := 1) rfl
  have r2 := R.cell (i := 2) rfl
  have f0 := R.f 0
  have f1 := R.f 1
  have f2 := R.f 2
  go_wp2
  refine bodyPost_ret (v := .tuple #[.agg #[.bool ts, .slice ta tm tc, .int .i64 tx], .bool tq]) (by simp [results, Tryd.results16, go_sem, r0, r1, r2]) rfl
    (lend (r := w.heap.size) B9 (by omega) (by omega) nt HL.out HR.out)
set_option maxRecDepth 100000 in
set_option maxHeartbeats 2000000 in
theorem lsigned_false_lt {v v' : Value} {X Y k : Nat} {E : Int} {w : World} (good : Prop) (hg : good → -1048576 ≤ E ∧ E ≤ 1048576) (hA : RN w v X k) (hB : RN w v' Y k) (hk : k ≤ 1099511627776) (hE1 : -9223372036854775808 ≤ E) (hE2 : E < 9223372036854775808) (hc : X < Y) :
    Calls Tryd.prog 16 #[.bool false, v, .bool true, v', .int .i64 E] w (LP w true (dist X Y) E good) := by
  have hcd : decide (cmpN X Y < 0) = true := by
    unfold cmpN
    simp [hc]
  have hb := dbox1 w #[.bool false, .slice none 0 0, .int .i64 0] 24 _ rfl
  obtain ⟨ya, yc, rfl, -⟩ := hA.slice
  obtain ⟨za, zc, rfl, -⟩ := hB.slice
  generalize (digs 65536 X).length = yl at hA ⊢
  generalize (digs 65536 Y).length = zl at hB ⊢
  go_enter Tryd.func16, Tryd.ntmps16
  go_wp2_with fail
  obtain ⟨hW, R, hsz⟩ := hb
  generalize (w.alloc (.cells #[.bool false, .slice none 0 0, .int .i64 0] 24)) = W0 at hW R hsz ⊢
  have hA := hA.behind hW
  have hB := hB.behind hW
  refine (rcmp_num hA hB (by omega) (by omega)).mono ?_
  rintro e w1 ⟨rfl, b1⟩
  have hA := hA.behind b1
  have hB := hB.behind b1
  have R := R.behind b1
  have B1 := below_both hW b1
  generalize cmpN X Y = c at hcd ⊢
  go_wp2_with fail
  refine (rsub_num hA hB (by omega) (by omega)).mono ?_
  rintro e w2 ⟨v2, rfl, r2, b2⟩
  have R := R.behind b2
  have R2 := R
  have B2 := below_both B1 b2
  obtain ⟨xa, xc, rfl, -⟩ := r2.slice
  generalize (digs 65536 (dist X Y)).length = xl at r2 ⊢
  go_wp2_with fail
  refine (ltold (s := true) good hg r2 (by omega) hE1 hE2).mono ?_
  rintro e w9 ⟨ta, tm, tc, ts, tn, tx, tq, rfl, nt, b9, hle, hR⟩
  have R := R.behind b9
  have B9 := below_both B2 b9
  have z2 := R2.lt
  have HR := Lib.hid hR
  have HL := Lib.hid hle
  clear hR hle hg r2
  have r0 := R.cell (i := 0) rfl
  have r1 := R.cell (i := 1) rfl
  have r2 := R.cell (i := 2) rfl
  have f0 := R.f 0
  have f1 := R.f 1
  have f2 := R.f 2
  go_wp2
  refine bodyPost_ret (v := .tuple #[.agg #[.bool ts, .slice ta tm tc, .int .i64 tx], .bool tq]) (by simp [results, Tryd.results16, go_sem, r0, r1, r2]) rfl
    (lend (r := w.heap.size) B9 (by omega) (by omega) nt HL.out HR.out)
set_option maxRecDepth 100000 in
set_option maxHeartbeats 2000000 in
theorem lsigned_false_ge {v v' : Value} {X Y k : Nat} {E : Int} {w : World} (good : Prop) (hg : good → -1048576 ≤ E ∧ E ≤ 1048576) (hA : RN w v X k) (hB : RN w v' Y k) (hk : k ≤ 1099511627776) (hE1 : -9223372036854775808 ≤ E) (hE2 : E < 9223372036854775808) (hc : Y ≤ X) :
    Calls Tryd.prog 16 #[.bool false, v, .bool true, v', .int .i64 E] w (LP w false (dist X Y) E good) := by
  have hcd : decide (cmpN X Y < 0) = false := by
    unfold cmpN
    rw [if_neg (by omega)]; split <;> simp
  have hb := dbox1 w #[.bool false, .slice none 0 0, .int .i64 0] 24 _ rfl
  obtain ⟨ya, yc, rfl, -⟩ := hA.slice
  obtain ⟨za, zc, rfl, -⟩ := hB.slice
  generalize (digs 65536 X).length = yl at hA ⊢
  generalize (digs 65536 Y).length = zl at hB ⊢
  go_enter Tryd.func16, Tryd.ntmps16
  go_wp2_with fail
  obtain ⟨hW, R, hsz⟩ := hb
  generalize (w.alloc (.cells #[.bool false, .slice none 0 0, .int .i64 0] 24)) = W0 at hW R hsz ⊢
  have hA := hA.behind hW
  have hB := hB.behind hW
  refine (rcmp_num hA hB (by omega) (by omega)).mono ?_
  rintro e w1 ⟨rfl, b1⟩
  have hA := hA.behind b1
  have hB := hB.behind b1
  have R := R.behind b1
  have B1 := below_both hW b1
  generalize cmpN X Y = c at hcd ⊢
  go_wp2_with fail
  refine (rsub_num hA hB (by omega) (by omega)).mono ?_
  rintro e w2 ⟨v2, rfl, r2, b2⟩
  have R := R.behind b2
  have R2 := R
  have B2 := below_both B1 b2
  obtain ⟨xa, xc, rfl, -⟩ := r2.slice
  generalize (digs 65536 (dist X Y)).length = xl at r2 ⊢
  go_wp2_with fail
  refine (ltold (s := false) good hg r2 (by omega) hE1 hE2).mono ?_
  rintro e w9 ⟨ta, tm, tc, ts, tn, tx, tq, rfl, nt, b9, hle, hR⟩
  have R := R.behind b9
  have B9 := below_both B2 b9
  have z2 := R2.lt
  have HR := Lib.hid hR
  have HL := Lib.hid hle
  clear hR hle hg r2
  have r0 := R.cell (i := 0) rfl
  have r1 := R.cell (i := 1) rfl
  have r2 := R.cell (i := 2) rfl
  have f0 := R.f 0
  have f1 := R.f 1
  have f2 := R.f 2
  go_wp2
  refine bodyPost_ret (v := .tuple #[.agg #[.bool ts, .slice ta tm tc, .int .i64 tx], .bool tq]) (by simp [results, Tryd.results16, go_sem, r0, r1, r2]) rfl
    (lend (r := w.heap.size) B9 (by omega) (by omega) nt HL.out HR.out)
theorem lsigned {s o : Bool} {v v' : Value} {X Y k : Nat} {E : Int} {w : World} (good : Prop) (hg : good → -1048576 ≤ E ∧ E ≤ 1048576) (hA : RN w v X k) (hB : RN w v' Y k) (hk : k ≤ 1099511627776) (hE1 : -9223372036854775808 ≤ E) (hE2 : E < 9223372036854775808) :
    Calls Tryd.prog 16 #[.bool s, v, .bool o, v', .int .i64 E] w (LP w (decide (wn s X + wn o Y < 0)) (wn s X + wn o Y).natAbs E good) := by
  cases s <;> cases o
  · exact (lsigned_false good hg hA hB hk hE1 hE2).mono fun e W' h => h.as (by simp [wn]; omega) (fun h => by simp [wn]; omega)
  · rcases Nat.lt_or_ge X Y with h1 | h1
    · exact (lsigned_false_lt good hg hA hB hk hE1 hE2 h1).mono fun e W' h => h.as (by simp [wn, dist]; omega) (fun h => by simp [wn]; omega)
    · exact (lsigned_false_ge good hg hA hB hk hE1 hE2 h1).mono fun e W' h => h.as (by simp [wn, dist]; omega) (fun h => by simp [wn]; omega)
  · rcases Nat.lt_or_ge X Y with h1 | h1
    · exact (lsigned_true_lt good hg hA hB hk hE1 hE2 h1).mono fun e W' h => h.as (by simp [wn, dist]; omega) (fun h => by simp [wn]; omega)
    · exact (lsigned_true_ge good hg hA hB hk hE1 hE2 h1).mono fun e W' h => h.as (by simp [wn, dist]; omega) (fun h0 => by simp [wn, dist] at h0 ⊢; omega)
  · exact (lsigned_true good hg hA hB hk hE1 hE2).mono fun e W' h => h.as (by simp [wn]; omega) (fun h => by simp [wn]; omega)
end Go.Proofs.YthipbonhkcjcfaaDoor
