/- vernierlaw03.WholeTells: true, whatever the whole numbers. -/
import Derived.Test.YtppbifijgkcpjaaWholeTells0
import Derived.Lib.Hide
import Derived.IntWalk
namespace Go.Proofs.Ytppbifijgkcpjaa
open Go.RowKit Go.Shelf
attribute [local go_sem ↓] Go.wp_at_zero Go.wp_at_succ field_one

set_option maxRecDepth 100000 in
set_option maxHeartbeats 16000000 in
theorem wtells_pos {s t : Bool} {a a' : Option Addr} {m cap m' cap' : Nat} {x y n : Int} {i : Nat} {w : World} (hi : i ≤ 1048576) (zA : Wv w s a m cap x i) (zB : Wv w t a' m' cap' y i) (g1 : -9223372036854775808 ≤ n) (g2 : n < 9223372036854775808) (hn : ¬ n < 0) (hu : IntKind.u64.wrap n = (n.natAbs : Int)) :
    Calls Try.prog 11 #[.agg #[.bool s, .slice a m cap], .agg #[.bool t, .slice a' m' cap'], .int .i64 n] w fun e W' => e = .returned (.bool true) ∧ Below w.heap.size w W' := by
  have hnn : n.natAbs < 18446744073709551616 := by omega
  have hnd : decide (n < 0) = false := decide_eq_false hn
  have hc1 := up_cmp x y
  have hc2 : cmpZ x y = cmpZ x y := rfl
  have hc3 := up_sign x
  have hc4 : cmpZ x 0 = cmpZ x 0 := rfl
  generalize hcc : cmpZ x y = c1 at hc1 hc2
  generalize hdd : cmpZ x 0 = c2 at hc3 hc4
  have H1 := Lib.hid hc1
  have H2 := Lib.hid hcc
  have H3 := Lib.hid hc3
  have H4 := Lib.hid hdd
  clear hc1 hc2 hc3 hc4 hcc hdd
  go_enter Try.func11, Try.ntmps11
  go_wp2_with fail
  have hb := boxes2 w (.bool s) (.slice a m cap) (.bool t) (.slice a' m' cap')
  generalize (w.alloc (.cells #[.bool s, .slice a m cap] 53)).alloc (.cells #[.bool t, .slice a' m' cap'] 53) = W0 at hb ⊢
  obtain ⟨hB, G, G2, hsz⟩ := hb
  have zA := zA.behind hB
  have zB := zB.behind hB
  have c0 := G.c0
  have c1 := G.c1
  go_wp2_with fail
  refine (wparts zA (by omega)).mono ?_
  rintro e w1 ⟨pa, pm, pc, qa, qm, qc, rfl, rp, rq, b1⟩
  have zA := zA.behind b1
  have zB := zB.behind b1
  have G := G.behind b1
  have G2 := G2.behind b1
  have B1 := below_both hB b1
  clear b1
  clear c0 c1
  have c0 := G2.c0
  have c1 := G2.c1
  go_wp2_with fail
  refine (wparts zB (by omega)).mono ?_
  rintro e w2 ⟨ra, rm, rc, sa, sm, sc, rfl, rr, rs, b2⟩
  have zA := zA.behind b2
  have zB := zB.behind b2
  have G := G.behind b2
  have G2 := G2.behind b2
  have rp := rp.behind b2
  have rq := rq.behind b2
  have B2 := below_both B1 b2
  clear b2
  clear c0 c1
  go_wp2_with fail
  refine (radd_num rp rr (by omega) (by omega)).mono ?_
  rintro e w3 ⟨v1, rfl, r1, b3⟩
  have zA := zA.behind b3
  have zB := zB.behind b3
  have G := G.behind b3
  have G2 := G2.behind b3
  have rp := rp.behind b3
  have rq := rq.behind b3
  have rr := rr.behind b3
  have rs := rs.behind b3
  have B3 := below_both B2 b3
  clear b3
  go_wp2_with fail
  refine (radd_num rq rs (by omega) (by omega)).mono ?_
  rintro e w4 ⟨v2, rfl, r2, b4⟩
  have zA := zA.behind b4
  have zB := zB.behind b4
  have G := G.behind b4
  have G2 := G2.behind b4
  have rp := rp.behind b4
  have rq := rq.behind b4
  have rr := rr.behind b4
  have rs := rs.behind b4
  have r1 := r1.behind b4
  have B4 := below_both B3 b4
  clear b4
  go_wp2_with fail
  refine (wmade_is r1 r2 (by omega) (by omega) (up_sum x y)).mono ?_
  rintro e w5 ⟨sa, aa, ma, ka, rfl, na, b5⟩
  have zA := zA.behind b5
  have zB := zB.behind b5
  have G := G.behind b5
  have G2 := G2.behind b5
  have rp := rp.behind b5
  have rq := rq.behind b5
  have rr := rr.behind b5
  have rs := rs.behind b5
  have B5 := below_both B4 b5
  clear b5
  have b6 := (Below.refl (w5).heap.size (w5)).alloc (Nat.le_refl _) (.cells #[.bool sa, .slice aa ma ka] 53)
  have zA := zA.behind b6
  have zB := zB.behind b6
  have G := G.behind b6
  have G2 := G2.behind b6
  have rp := rp.behind b6
  have rq := rq.behind b6
  have rr := rr.behind b6
  have rs := rs.behind b6
  have na := na.behind b6
  have B6 := below_both B5 b6
  clear b6
  have Sa := Bx.new w5 (.bool sa) (.slice aa ma ka)
  go_wp2_with fail
  refine (radd_num rp rs (by omega) (by omega)).mono ?_
  rintro e w7 ⟨v3, rfl, r3, b7⟩
  have zA := zA.behind b7
  have zB := zB.behind b7
  have G := G.behind b7
  have G2 := G2.behind b7
  have rp := rp.behind b7
  have rq := rq.behind b7
  have rr := rr.behind b7
  have rs := rs.behind b7
  have na := na.behind b7
  have Sa := Sa.behind b7
  have B7 := below_both B6 b7
  clear b7
  go_wp2_with fail
  refine (radd_num rq rr (by omega) (by omega)).mono ?_
  rintro e w8 ⟨v4, rfl, r4, b8⟩
  have zA := zA.behind b8
  have zB := zB.behind b8
  have G := G.behind b8
  have G2 := G2.behind b8
  have rp := rp.behind b8
  have rq := rq.behind b8
  have rr := rr.behind b8
  have rs := rs.behind b8
  have na := na.behind b8
  have Sa := Sa.behind b8
  have r3 := r3.behind b8
  have B8 := below_both B7 b8
  clear b8
  go_wp2_with fail
  refine (wmade_is r3 r4 (by omega) (by omega) (up_less x y)).mono ?_
  rintro e w9 ⟨sb, ab, mb, kb, rfl, nb, b9⟩
  have zA := zA.behind b9
  have zB := zB.behind b9
  have G := G.behind b9
  have G2 := G2.behind b9
  have rp := rp.behind b9
  have rq := rq.behind b9
  have rr := rr.behind b9
  have rs := rs.behind b9
  have na := na.behind b9
  have Sa := Sa.behind b9
  have B9 := below_both B8 b9
  clear b9
  have b10 := (Below.refl (w9).heap.size (w9)).alloc (Nat.le_refl _) (.cells #[.bool sb, .slice ab mb kb] 53)
  have zA := zA.behind b10
  have zB := zB.behind b10
  have G := G.behind b10
  have G2 := G2.behind b10
  have rp := rp.behind b10
  have rq := rq.behind b10
  have rr := rr.behind b10
  have rs := rs.behind b10
  have na := na.behind b10
  have Sa := Sa.behind b10
  have nb := nb.behind b10
  have B10 := below_both B9 b10
  clear b10
  have Sb := Bx.new w9 (.bool sb) (.slice ab mb kb)
  go_wp2_with fail
  refine (rmul_num rp rr (by omega) (by omega)).mono ?_
  rintro e w11 ⟨v5, rfl, r5, b11⟩
  have zA := zA.behind b11
  have zB := zB.behind b11
  have G := G.behind b11
  have G2 := G2.behind b11
  have rp := rp.behind b11
  have rq := rq.behind b11
  have rr := rr.behind b11
  have rs := rs.behind b11
  have na := na.behind b11
  have Sa := Sa.behind b11
  have nb := nb.behind b11
  have Sb := Sb.behind b11
  have B11 := below_both B10 b11
  clear b11
  go_wp2_with fail
  refine (rmul_num rq rs (by omega) (by omega)).mono ?_
  rintro e w12 ⟨v6, rfl, r6, b12⟩
  have zA := zA.behind b12
  have zB := zB.behind b12
  have G := G.behind b12
  have G2 := G2.behind b12
  have rp := rp.behind b12
  have rq := rq.behind b12
  have rr := rr.behind b12
  have rs := rs.behind b12
  have na := na.behind b12
  have Sa := Sa.behind b12
  have nb := nb.behind b12
  have Sb := Sb.behind b12
  have r5 := r5.behind b12
  have B12 := below_both B11 b12
  clear b12
  go_wp2_with fail
  refine (radd_num r5 r6 (by omega) (by omega)).mono ?_
  rintro e w13 ⟨v7, rfl, r7, b13⟩
  have zA := zA.behind b13
  have zB := zB.behind b13
  have G := G.behind b13
  have G2 := G2.behind b13
  have rp := rp.behind b13
  have rq := rq.behind b13
  have rr := rr.behind b13
  have rs := rs.behind b13
  have na := na.behind b13
  have Sa := Sa.behind b13
  have nb := nb.behind b13
  have Sb := Sb.behind b13
  have B13 := below_both B12 b13
  clear b13
  go_wp2_with fail
  refine (rmul_num rp rs (by omega) (by omega)).mono ?_
  rintro e w14 ⟨v8, rfl, r8, b14⟩
  have zA := zA.behind b14
  have zB := zB.behind b14
  have G := G.behind b14
  have G2 := G2.behind b14
  have rp := rp.behind b14
  have rq := rq.behind b14
  have rr := rr.behind b14
  have rs := rs.behind b14
  have na := na.behind b14
  have Sa := Sa.behind b14
  have nb := nb.behind b14
  have Sb := Sb.behind b14
  have r7 := r7.behind b14
  have B14 := below_both B13 b14
  clear b14
  go_wp2_with fail
  refine (rmul_num rq rr (by omega) (by omega)).mono ?_
  rintro e w15 ⟨v9, rfl, r9, b15⟩
  have zA := zA.behind b15
  have zB := zB.behind b15
  have G := G.behind b15
  have G2 := G2.behind b15
  have rp := rp.behind b15
  have rq := rq.behind b15
  have rr := rr.behind b15
  have rs := rs.behind b15
  have na := na.behind b15
  have Sa := Sa.behind b15
  have nb := nb.behind b15
  have Sb := Sb.behind b15
  have r7 := r7.behind b15
  have r8 := r8.behind b15
  have B15 := below_both B14 b15
  clear b15
  go_wp2_with fail
  refine (radd_num r8 r9 (by omega) (by omega)).mono ?_
  rintro e w16 ⟨vA, rfl, rA, b16⟩
  have zA := zA.behind b16
  have zB := zB.behind b16
  have G := G.behind b16
  have G2 := G2.behind b16
  have rp := rp.behind b16
  have rq := rq.behind b16
  have rr := rr.behind b16
  have rs := rs.behind b16
  have na := na.behind b16
  have Sa := Sa.behind b16
  have nb := nb.behind b16
  have Sb := Sb.behind b16
  have r7 := r7.behind b16
  have B16 := below_both B15 b16
  clear b16
  go_wp2_with fail
  refine (wmade_is r7 rA (by omega) (by omega) (up_prod x y)).mono ?_
  rintro e w17 ⟨sc, ac, mc, kc, rfl, nc, b17⟩
  have zA := zA.behind b17
  have zB := zB.behind b17
  have G := G.behind b17
  have G2 := G2.behind b17
  have rp := rp.behind b17
  have rq := rq.behind b17
  have rr := rr.behind b17
  have rs := rs.behind b17
  have na := na.behind b17
  have Sa := Sa.behind b17
  have nb := nb.behind b17
  have Sb := Sb.behind b17
  have B17 := below_both B16 b17
  clear b17
  have b18 := (Below.refl (w17).heap.size (w17)).alloc (Nat.le_refl _) (.cells #[.bool sc, .slice ac mc kc] 53)
  have zA := zA.behind b18
  have zB := zB.behind b18
  have G := G.behind b18
  have G2 := G2.behind b18
  have rp := rp.behind b18
  have rq := rq.behind b18
  have rr := rr.behind b18
  have rs := rs.behind b18
  have na := na.behind b18
  have Sa := Sa.behind b18
  have nb := nb.behind b18
  have Sb := Sb.behind b18
  have nc := nc.behind b18
  have B18 := below_both B17 b18
  clear b18
  have Sc := Bx.new w17 (.bool sc) (.slice ac mc kc)
  go_wp2_with fail
  refine (radd_num rp rs (by omega) (by omega)).mono ?_
  rintro e w19 ⟨vB, rfl, rB, b19⟩
  have zA := zA.behind b19
  have zB := zB.behind b19
  have G := G.behind b19
  have G2 := G2.behind b19
  have rp := rp.behind b19
  have rq := rq.behind b19
  have rr := rr.behind b19
  have na := na.behind b19
  have Sa := Sa.behind b19
  have nb := nb.behind b19
  have Sb := Sb.behind b19
  have nc := nc.behind b19
  have Sc := Sc.behind b19
  have B19 := below_both B18 b19
  clear b19
  go_wp2_with fail
  refine (radd_num rq rr (by omega) (by omega)).mono ?_
  rintro e w20 ⟨vC, rfl, rC, b20⟩
  have zA := zA.behind b20
  have zB := zB.behind b20
  have G := G.behind b20
  have G2 := G2.behind b20
  have rp := rp.behind b20
  have rq := rq.behind b20
  have na := na.behind b20
  have Sa := Sa.behind b20
  have nb := nb.behind b20
  have Sb := Sb.behind b20
  have nc := nc.behind b20
  have Sc := Sc.behind b20
  have rB := rB.behind b20
  have B20 := below_both B19 b20
  clear b20
  go_wp2_with fail
  refine (rcmp_is rB rC (by omega) (by omega) H1.out).mono ?_
  rintro e w21 ⟨rfl, b21⟩
  have zA := zA.behind b21
  have zB := zB.behind b21
  have G := G.behind b21
  have G2 := G2.behind b21
  have rp := rp.behind b21
  have rq := rq.behind b21
  have na := na.behind b21
  have Sa := Sa.behind b21
  have nb := nb.behind b21
  have Sb := Sb.behind b21
  have nc := nc.behind b21
  have Sc := Sc.behind b21
  have B21 := below_both B20 b21
  clear b21
  go_wp2_with fail
  refine (word_num hnn).mono ?_
  rintro e w22 ⟨vD, rfl, rD, b22⟩
  have zA := zA.behind b22
  have zB := zB.behind b22
  have G := G.behind b22
  have G2 := G2.behind b22
  have rp := rp.behind b22
  have rq := rq.behind b22
  have na := na.behind b22
  have Sa := Sa.behind b22
  have nb := nb.behind b22
  have Sb := Sb.behind b22
  have nc := nc.behind b22
  have Sc := Sc.behind b22
  have B22 := below_both B21 b22
  clear b22
  go_wp2_with fail
  refine (limbs_num rD (by omega)).mono ?_
  rintro e w23 ⟨vE, rfl, nE, b23⟩
  have zA := zA.behind b23
  have zB := zB.behind b23
  have G := G.behind b23
  have G2 := G2.behind b23
  have rp := rp.behind b23
  have rq := rq.behind b23
  have na := na.behind b23
  have Sa := Sa.behind b23
  have nb := nb.behind b23
  have Sb := Sb.behind b23
  have nc := nc.behind b23
  have Sc := Sc.behind b23
  have B23 := below_both B22 b23
  clear b23
  obtain ⟨aE, mE, kE, rfl⟩ : ∃ a l c, vE = .slice a l c := by
    obtain ⟨a, c, e, _⟩ := nE.slice
    exact ⟨a, _, c, e⟩
  have nd : WNew _ _ (.agg #[.bool false, .slice aE mE kE]) n := ⟨_, by rw [decide_eq_false (by omega : ¬ n < 0)], nE⟩
  have b24 := (Below.refl (w23).heap.size (w23)).alloc (Nat.le_refl _) (.cells #[.bool false, .slice aE mE kE] 53)
  have zA := zA.behind b24
  have zB := zB.behind b24
  have G := G.behind b24
  have G2 := G2.behind b24
  have rp := rp.behind b24
  have rq := rq.behind b24
  have na := na.behind b24
  have Sa := Sa.behind b24
  have nb := nb.behind b24
  have Sb := Sb.behind b24
  have nc := nc.behind b24
  have Sc := Sc.behind b24
  have nd := nd.behind b24
  have B24 := below_both B23 b24
  clear b24
  have Sd := Bx.new w23 (.bool false) (.slice aE mE kE)
  go_wp2_with fail
  generalize (w23).alloc (.cells #[.bool false, .slice aE mE kE] 53) = W1 at B24 zA zB G G2 Sa Sb Sc Sd na nb nc nd rp rq ⊢
  have bd := (Below.refl (W1).heap.size (W1)).drew
  have zA := zA.behind bd
  have zB := zB.behind bd
  have G := G.behind bd
  have G2 := G2.behind bd
  have Sa := Sa.behind bd
  have Sb := Sb.behind bd
  have Sc := Sc.behind bd
  have Sd := Sd.behind bd
  have na := na.behind bd
  have nb := nb.behind bd
  have nc := nc.behind bd
  have nd := nd.behind bd
  have rp := rp.behind bd
  have rq := rq.behind bd
  have B0 := below_both B24 bd
  clear bd
  have d0 := G.c0
  have d1 := G.c1
  have d2 := G2.c0
  have d3 := G2.c1
  have d4 := Sa.c0
  have d5 := Sa.c1
  have d6 := Sb.c0
  have d7 := Sb.c1
  have d8 := Sc.c0
  have d9 := Sc.c1
  have d10 := Sd.c0
  have d11 := Sd.c1
  go_region_held3 (fun w' => w'.cell? ⟨w.heap.size, 0, none⟩ = some (.bool s) ∧ w'.cell? ⟨w.heap.size, 1, none⟩ = some (.slice a m cap) ∧ w'.cell? ⟨w.heap.size + 1, 0, none⟩ = some (.bool t) ∧ w'.cell? ⟨w.heap.size + 1, 1, none⟩ = some (.slice a' m' cap') ∧ w'.cell? ⟨w5.heap.size, 0, none⟩ = some (.bool sa) ∧ w'.cell? ⟨w5.heap.size, 1, none⟩ = some (.slice aa ma ka) ∧ w'.cell? ⟨w9.heap.size, 0, none⟩ = some (.bool sb) ∧ w'.cell? ⟨w9.heap.size, 1, none⟩ = some (.slice ab mb kb) ∧ w'.cell? ⟨w17.heap.size, 0, none⟩ = some (.bool sc) ∧ w'.cell? ⟨w17.heap.size, 1, none⟩ = some (.slice ac mc kc) ∧ w'.cell? ⟨w23.heap.size, 0, none⟩ = some (.bool false) ∧ w'.cell? ⟨w23.heap.size, 1, none⟩ = some (.slice aE mE kE)) (first | exact ⟨G.c0, G.c1, G2.c0, G2.c1, Sa.c0, Sa.c1, Sb.c0, Sb.c1, Sc.c0, Sc.c1, Sd.c0, Sd.c1⟩ | (refine ⟨?_, ?_, ?_, ?_, ?_, ?_, ?_, ?_, ?_, ?_, ?_, ?_⟩ <;> go_keep))
    (first
      | (have _ := Bq17; go_at_call 50; (with_reducible refine (walive _).mono ?_); rintro e wq18 ⟨rfl, bq18⟩; have G := G.behind bq18; have G2 := G2.behind bq18; have Sa := Sa.behind bq18; have Sb := Sb.behind bq18; have Sc := Sc.behind bq18; have Sd := Sd.behind bq18; have Bq18 := below_both Bq17 bq18; clear bq18)
      | (have _ := Bq16; go_at_call 41; (with_reducible refine (zsame n8 nd rfl h8.lt (by omega)).mono ?_); rintro e wq17 ⟨rfl, bq17⟩; have G := G.behind bq17; have G2 := G2.behind bq17; have Sa := Sa.behind bq17; have Sb := Sb.behind bq17; have Sc := Sc.behind bq17; have Sd := Sd.behind bq17; have Bq17 := below_both Bq16 bq17; clear bq17)
      | (have _ := Bq15; go_at_call 49; (with_reducible refine (zof n g1 g2 _).mono ?_); rintro e wq16 ⟨s8, a8, m8, k8, rfl, h8, n8, bq16⟩; have G := G.behind bq16; have G2 := G2.behind bq16; have Sa := Sa.behind bq16; have Sb := Sb.behind bq16; have Sc := Sc.behind bq16; have Sd := Sd.behind bq16; have nd := nd.behind bq16; have Bq16 := below_both Bq15 bq16; clear bq16)
      | (have _ := Bq14; go_at_call 41; (with_reducible refine (zsame n6 n7 rfl h6.lt (by omega)).mono ?_); rintro e wq15 ⟨rfl, bq15⟩; have G := G.behind bq15; have G2 := G2.behind bq15; have Sa := Sa.behind bq15; have Sb := Sb.behind bq15; have Sc := Sc.behind bq15; have Sd := Sd.behind bq15; have nd := nd.behind bq15; have Bq15 := below_both Bq14 bq15; clear bq15)
      | (have _ := Bq13; go_at_call 39; (with_reducible refine (wmade_is rq rp (by omega) (by omega) (up_diff2 x)).mono ?_); rintro e wq14 ⟨s7, a7, m7, k7, rfl, n7, bq14⟩; have G := G.behind bq14; have G2 := G2.behind bq14; have Sa := Sa.behind bq14; have Sb := Sb.behind bq14; have Sc := Sc.behind bq14; have Sd := Sd.behind bq14; have nd := nd.behind bq14; have h6 := h6.behind bq14; have n6 := n6.behind bq14; have Bq14 := below_both Bq13 bq14; clear bq14)
      | (have _ := Bq12; go_at_call 48; (with_reducible refine (zneg zA (by omega)).mono ?_); rintro e wq13 ⟨s6, a6, m6, k6, rfl, h6, n6, bq13⟩; have G := G.behind bq13; have G2 := G2.behind bq13; have Sa := Sa.behind bq13; have Sb := Sb.behind bq13; have Sc := Sc.behind bq13; have Sd := Sd.behind bq13; have nd := nd.behind bq13; have rp := rp.behind bq13; have rq := rq.behind bq13; have Bq13 := below_both Bq12 bq13; clear bq13)
      | (have _ := Bq11; go_at_call 41; (with_reducible refine (zsame n4 n5 rfl h4.lt (by omega)).mono ?_); rintro e wq12 ⟨rfl, bq12⟩; have zA := zA.behind bq12; have G := G.behind bq12; have G2 := G2.behind bq12; have Sa := Sa.behind bq12; have Sb := Sb.behind bq12; have Sc := Sc.behind bq12; have Sd := Sd.behind bq12; have nd := nd.behind bq12; have rp := rp.behind bq12; have rq := rq.behind bq12; have Bq12 := below_both Bq11 bq12; clear bq12)
      | (have _ := Bq10; go_at_call 39; (with_reducible refine (wmade_is rp rq (by omega) (by omega) (up_diff x)).mono ?_); rintro e wq11 ⟨s5, a5, m5, k5, rfl, n5, bq11⟩; have zA := zA.behind bq11; have G := G.behind bq11; have G2 := G2.behind bq11; have Sa := Sa.behind bq11; have Sb := Sb.behind bq11; have Sc := Sc.behind bq11; have Sd := Sd.behind bq11; have nd := nd.behind bq11; have rp := rp.behind bq11; have rq := rq.behind bq11; have h4 := h4.behind bq11; have n4 := n4.behind bq11; have Bq11 := below_both Bq10 bq11; clear bq11)
      | (have _ := Bq9; go_at_call 47; (with_reducible refine (znorm zA (by omega)).mono ?_); rintro e wq10 ⟨s4, a4, m4, k4, rfl, h4, n4, bq10⟩; have zA := zA.behind bq10; have G := G.behind bq10; have G2 := G2.behind bq10; have Sa := Sa.behind bq10; have Sb := Sb.behind bq10; have Sc := Sc.behind bq10; have Sd := Sd.behind bq10; have nd := nd.behind bq10; have rp := rp.behind bq10; have rq := rq.behind bq10; have Bq10 := below_both Bq9 bq10; clear bq10)
      | (have _ := Bq8; go_at_call 24; (with_reducible refine (rcmp_is rp rq (by omega) (by omega) H3.out).mono ?_); rintro e wq9 ⟨rfl, bq9⟩; have zA := zA.behind bq9; have G := G.behind bq9; have G2 := G2.behind bq9; have Sa := Sa.behind bq9; have Sb := Sb.behind bq9; have Sc := Sc.behind bq9; have Sd := Sd.behind bq9; have nd := nd.behind bq9; have rp := rp.behind bq9; have rq := rq.behind bq9; have Bq9 := below_both Bq8 bq9; clear bq9)
      | (have _ := Bq7; go_at_call 46; (with_reducible refine (zsign_is zA (by omega) H4.out).mono ?_); rintro e wq8 ⟨rfl, bq8⟩; have zA := zA.behind bq8; have G := G.behind bq8; have G2 := G2.behind bq8; have Sa := Sa.behind bq8; have Sb := Sb.behind bq8; have Sc := Sc.behind bq8; have Sd := Sd.behind bq8; have nd := nd.behind bq8; have rp := rp.behind bq8; have rq := rq.behind bq8; have Bq8 := below_both Bq7 bq8; clear bq8)
      | (have _ := Bq6; go_at_call 45; (with_reducible refine (zcmp_is zA zB (by omega) (by omega) H2.out).mono ?_); rintro e wq7 ⟨rfl, bq7⟩; have zA := zA.behind bq7; have G := G.behind bq7; have G2 := G2.behind bq7; have Sa := Sa.behind bq7; have Sb := Sb.behind bq7; have Sc := Sc.behind bq7; have Sd := Sd.behind bq7; have nd := nd.behind bq7; have rp := rp.behind bq7; have rq := rq.behind bq7; have Bq7 := below_both Bq6 bq7; clear bq7)
      | (have _ := Bq5; go_at_call 41; (with_reducible refine (zsame n3 nc rfl h3.lt (by omega)).mono ?_); rintro e wq6 ⟨rfl, bq6⟩; have zA := zA.behind bq6; have zB := zB.behind bq6; have G := G.behind bq6; have G2 := G2.behind bq6; have Sa := Sa.behind bq6; have Sb := Sb.behind bq6; have Sc := Sc.behind bq6; have Sd := Sd.behind bq6; have nd := nd.behind bq6; have rp := rp.behind bq6; have rq := rq.behind bq6; have Bq6 := below_both Bq5 bq6; clear bq6)
      | (have _ := Bq4; go_at_call 44; (with_reducible refine (zmul zA zB (by omega)).mono ?_); rintro e wq5 ⟨s3, a3, m3, k3, rfl, h3, n3, bq5⟩; have zA := zA.behind bq5; have zB := zB.behind bq5; have G := G.behind bq5; have G2 := G2.behind bq5; have Sa := Sa.behind bq5; have Sb := Sb.behind bq5; have Sc := Sc.behind bq5; have Sd := Sd.behind bq5; have nc := nc.behind bq5; have nd := nd.behind bq5; have rp := rp.behind bq5; have rq := rq.behind bq5; have Bq5 := below_both Bq4 bq5; clear bq5)
      | (have _ := Bq3; go_at_call 41; (with_reducible refine (zsame n2 nb rfl h2.lt (by omega)).mono ?_); rintro e wq4 ⟨rfl, bq4⟩; have zA := zA.behind bq4; have zB := zB.behind bq4; have G := G.behind bq4; have G2 := G2.behind bq4; have Sa := Sa.behind bq4; have Sb := Sb.behind bq4; have Sc := Sc.behind bq4; have Sd := Sd.behind bq4; have nc := nc.behind bq4; have nd := nd.behind bq4; have rp := rp.behind bq4; have rq := rq.behind bq4; have Bq4 := below_both Bq3 bq4; clear bq4)
      | (have _ := Bq2; go_at_call 43; (with_reducible refine (zsub zA zB (by omega) (by omega)).mono ?_); rintro e wq3 ⟨s2, a2, m2, k2, rfl, h2, n2, bq3⟩; have zA := zA.behind bq3; have zB := zB.behind bq3; have G := G.behind bq3; have G2 := G2.behind bq3; have Sa := Sa.behind bq3; have Sb := Sb.behind bq3; have Sc := Sc.behind bq3; have Sd := Sd.behind bq3; have nb := nb.behind bq3; have nc := nc.behind bq3; have nd := nd.behind bq3; have rp := rp.behind bq3; have rq := rq.behind bq3; have Bq3 := below_both Bq2 bq3; clear bq3)
      | (have _ := Bq1; go_at_call 41; (with_reducible refine (zsame n1 na rfl h1.lt (by omega)).mono ?_); rintro e wq2 ⟨rfl, bq2⟩; have zA := zA.behind bq2; have zB := zB.behind bq2; have G := G.behind bq2; have G2 := G2.behind bq2; have Sa := Sa.behind bq2; have Sb := Sb.behind bq2; have Sc := Sc.behind bq2; have Sd := Sd.behind bq2; have nb := nb.behind bq2; have nc := nc.behind bq2; have nd := nd.behind bq2; have rp := rp.behind bq2; have rq := rq.behind bq2; have Bq2 := below_both Bq1 bq2; clear bq2)
      | (go_at_call 42; (with_reducible refine (zadd zA zB (by omega) (by omega)).mono ?_); rintro e wq1 ⟨s1, a1, m1, k1, rfl, h1, n1, bq1⟩; have zA := zA.behind bq1; have zB := zB.behind bq1; have G := G.behind bq1; have G2 := G2.behind bq1; have Sa := Sa.behind bq1; have Sb := Sb.behind bq1; have Sc := Sc.behind bq1; have Sd := Sd.behind bq1; have na := na.behind bq1; have nb := nb.behind bq1; have nc := nc.behind bq1; have nd := nd.behind bq1; have rp := rp.behind bq1; have rq := rq.behind bq1; have Bq1 := below_both B0 bq1; clear bq1))
  go_wp2
  go_ret
  exact ⟨rfl, Bq18⟩
end Go.Proofs.Ytppbifijgkcpjaa
