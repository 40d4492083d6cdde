/- vernierlaw04.DyadicAbove: true, whatever the number. -/
import Derived.Test.YthipbonhkcjcfaaDoorDyUp
import Derived.Test.YthipbonhkcjcfaaDoorDyRing
namespace Go.Proofs.YthipbonhkcjcfaaDoor
open Go.RowKit Go.Shelf
attribute [local go_sem ↓] Go.wp_at_zero Go.wp_at_succ

theorem of_one {y : Int} (h1 : -16384 ≤ y) (h2 : y ≤ 16384) : (if expB y then outD (tld (decide ((1 : Int) < 0)) (1 : Int).natAbs y) else ⟨false, 0, 0⟩) = ⟨false, 1, y⟩ ∧ (if expB y then outE (tld (decide ((1 : Int) < 0)) (1 : Int).natAbs y) else 4) = 0 := by
  have e : tld (decide ((1 : Int) < 0)) (1 : Int).natAbs y = ⟨false, 1, y⟩ := tld_odd false (by decide) y
  have f : fits ⟨false, 1, y⟩ = true := by rw [fits_iff]; exact ⟨h1, h2, by show (digs 18446744073709551616 1).length ≤ 1024; rw [digs_small (by decide) (by decide) (by decide)]; simp⟩
  rw [if_pos (expB_iff.2 ⟨h1, h2⟩), if_pos (expB_iff.2 ⟨h1, h2⟩), e, outD, outE, if_pos f, if_pos f]
  exact ⟨rfl, rfl⟩
set_option maxRecDepth 100000 in
set_option maxHeartbeats 4000000 in
theorem abl_no {s0 : Bool} {a0 : Option Addr} {m0 k0 n0 i : Nat} {x0 bits : Int} {w : World} (hA0 : Num w (.slice a0 m0 k0) n0 i) (hT : TabOk w) (hb1 : -9223372036854775808 ≤ bits) (hb2 : bits < 9223372036854775808) (hm : Hid (mayB m0 x0 = false)) :
    Calls Tryd.prog 5 #[.agg #[.bool s0, .slice a0 m0 k0, .int .i64 x0], .int .i64 bits] w fun e W' => e = .returned (.bool true) ∧ Below w.heap.size w W' := by
  have hb := dbox1 w #[.bool s0, .slice a0 m0 k0, .int .i64 x0] 24
  have hbs := fun (W : World) (s : Bool) (a : Option Addr) (m c : Nat) (x : Int) => dbox1 W #[.bool s, .slice a m c, .int .i64 x] 24
  go_enter Tryd.func5, Tryd.ntmps5
  go_wp2_with fail
  obtain ⟨hB, G0, hsz⟩ := hb _ rfl
  generalize (w.alloc (.cells #[.bool s0, .slice a0 m0 k0, .int .i64 x0] 24)) = W0 at hB G0 hsz ⊢
  clear hb
  have hT := hT.behind hB
  refine (lalive W0 hT).mono ?_
  rintro e w1 ⟨rfl, b1⟩
  have hT := hT.behind b1
  have hA0 := (hA0.behind hB).behind b1
  have G0 := G0.behind b1
  have B := below_both hB b1
  clear b1 hB
  have c00 := G0.cell (i := 0) rfl
  have c01 := G0.cell (i := 1) rfl
  have c02 := G0.cell (i := 2) rfl
  go_wp2_with fail
  refine (dabove hA0 hT hb1 hb2).mono ?_
  rintro e v1 ⟨a1, m1, k1, s1, n1, x1, q1, rfl, N1, b, hR, hQ⟩
  have R1 := Lib.hid hR
  have Q1 := Lib.hid hQ
  clear hR hQ
  clear c00 c01 c02
  have hq : q1 = 9 := by rw [← Q1.out, hm.out]; rfl
  subst hq
  have hl1 := res_len R1.out
  obtain ⟨bx, G1, -⟩ := hbs v1 s1 a1 m1 k1 x1 _ rfl
  have hA0 := (hA0.behind b).behind bx
  have G0 := (G0.behind b).behind bx
  have hT := (hT.behind b).behind bx
  have hA1 := (N1.numl hl1).behind bx
  have N1 := N1.behind bx
  have B := below_both (below_both B b) bx
  clear b bx
  have c00 := G0.cell (i := 0) rfl
  have c01 := G0.cell (i := 1) rfl
  have c02 := G0.cell (i := 2) rfl
  go_wp2_with fail
  refine (lmay_is hm.out _).mono ?_
  rintro e v2 ⟨rfl, b⟩
  have B := below_both B b
  clear c00 c01 c02
  go_wp2
  go_ret
  exact ⟨rfl, B⟩
set_option maxRecDepth 100000 in
set_option maxHeartbeats 4000000 in
theorem abl_far {s0 : Bool} {a0 : Option Addr} {m0 k0 n0 i : Nat} {x0 bits : Int} {w : World} (hA0 : Num w (.slice a0 m0 k0) n0 i) (hT : TabOk w) (hb1 : -9223372036854775808 ≤ bits) (hb2 : bits < 9223372036854775808) (hm : Hid (mayB m0 x0 = true)) (hf : Hid (¬ fits (aboveD s0 n0 x0 bits) = true)) :
    Calls Tryd.prog 5 #[.agg #[.bool s0, .slice a0 m0 k0, .int .i64 x0], .int .i64 bits] w fun e W' => e = .returned (.bool true) ∧ Below w.heap.size w W' := by
  have hb := dbox1 w #[.bool s0, .slice a0 m0 k0, .int .i64 x0] 24
  have hbs := fun (W : World) (s : Bool) (a : Option Addr) (m c : Nat) (x : Int) => dbox1 W #[.bool s, .slice a m c, .int .i64 x] 24
  go_enter Tryd.func5, Tryd.ntmps5
  go_wp2_with fail
  obtain ⟨hB, G0, hsz⟩ := hb _ rfl
  generalize (w.alloc (.cells #[.bool s0, .slice a0 m0 k0, .int .i64 x0] 24)) = W0 at hB G0 hsz ⊢
  clear hb
  have hT := hT.behind hB
  refine (lalive W0 hT).mono ?_
  rintro e w1 ⟨rfl, b1⟩
  have hT := hT.behind b1
  have hA0 := (hA0.behind hB).behind b1
  have G0 := G0.behind b1
  have B := below_both hB b1
  clear b1 hB
  have c00 := G0.cell (i := 0) rfl
  have c01 := G0.cell (i := 1) rfl
  have c02 := G0.cell (i := 2) rfl
  go_wp2_with fail
  refine (dabove hA0 hT hb1 hb2).mono ?_
  rintro e v1 ⟨a1, m1, k1, s1, n1, x1, q1, rfl, N1, b, hR, hQ⟩
  have R1 := Lib.hid hR
  have Q1 := Lib.hid hQ
  clear hR hQ
  clear c00 c01 c02
  have hq : q1 = 4 := by rw [← Q1.out, hm.out, resE, if_pos rfl, outE, if_neg hf.out]
  subst hq
  have hl1 := res_len R1.out
  obtain ⟨bx, G1, -⟩ := hbs v1 s1 a1 m1 k1 x1 _ rfl
  have hA0 := (hA0.behind b).behind bx
  have G0 := (G0.behind b).behind bx
  have hT := (hT.behind b).behind bx
  have hA1 := (N1.numl hl1).behind bx
  have N1 := N1.behind bx
  have B := below_both (below_both B b) bx
  clear b bx
  go_wp2
  go_ret
  exact ⟨rfl, B⟩
set_option maxRecDepth 100000 in
set_option maxHeartbeats 4000000 in
theorem abl_few {s0 : Bool} {a0 : Option Addr} {m0 k0 n0 i : Nat} {x0 bits : Int} {w : World} (hA0 : Num w (.slice a0 m0 k0) n0 i) (hT : TabOk w) (hb1 : -9223372036854775808 ≤ bits) (hb2 : bits < 9223372036854775808) (hm : Hid (mayB m0 x0 = true)) (hf : Hid (fits (aboveD s0 n0 x0 bits) = true)) (hv : (nbits n0 : Int) ≤ max bits 1) :
    Calls Tryd.prog 5 #[.agg #[.bool s0, .slice a0 m0 k0, .int .i64 x0], .int .i64 bits] w fun e W' => e = .returned (.bool true) ∧ Below w.heap.size w W' := by
  obtain ⟨hE1, hE2, hm0⟩ := mayB_iff.1 hm.out
  have hA0 := num_may hA0 hm0
  have hb := dbox1 w #[.bool s0, .slice a0 m0 k0, .int .i64 x0] 24
  have hbs := fun (W : World) (s : Bool) (a : Option Addr) (m c : Nat) (x : Int) => dbox1 W #[.bool s, .slice a m c, .int .i64 x] 24
  go_enter Tryd.func5, Tryd.ntmps5
  go_wp2_with fail
  obtain ⟨hB, G0, hsz⟩ := hb _ rfl
  generalize (w.alloc (.cells #[.bool s0, .slice a0 m0 k0, .int .i64 x0] 24)) = W0 at hB G0 hsz ⊢
  clear hb
  have hT := hT.behind hB
  refine (lalive W0 hT).mono ?_
  rintro e w1 ⟨rfl, b1⟩
  have hT := hT.behind b1
  have hA0 := (hA0.behind hB).behind b1
  have G0 := G0.behind b1
  have B := below_both hB b1
  clear b1 hB
  have c00 := G0.cell (i := 0) rfl
  have c01 := G0.cell (i := 1) rfl
  have c02 := G0.cell (i := 2) rfl
  go_wp2_with fail
  refine (dabove hA0 hT hb1 hb2).mono ?_
  rintro e v1 ⟨a1, m1, k1, s1, n1, x1, q1, rfl, N1, b, hR, hQ⟩
  have R1 := Lib.hid hR
  have Q1 := Lib.hid hQ
  clear hR hQ
  clear c00 c01 c02
  have hq : q1 = 0 := by rw [← Q1.out, hm.out, resE, if_pos rfl, outE, if_pos hf.out]
  subst hq
  have hl1 := res_len R1.out
  have hm1 := Lib.hid (res_may R1.out N1)
  have F := Lib.hid (above_facts (s := s0) (M := n0) (E := x0) (bits := bits) (r := ⟨s1, n1, x1⟩) 1048576 (by omega) (by rw [← R1.out, hm.out, resD, if_pos rfl, outD, if_pos hf.out]))
  clear R1 Q1
  obtain ⟨bx, G1, -⟩ := hbs v1 s1 a1 m1 k1 x1 _ rfl
  have hA0 := (hA0.behind b).behind bx
  have G0 := (G0.behind b).behind bx
  have hT := (hT.behind b).behind bx
  have hA1 := (N1.numl hl1).behind bx
  have N1 := N1.behind bx
  have B := below_both (below_both B b) bx
  clear b bx
  have hcmp := Lib.hid (dv_cmp 1048576 s1 n1 x1 s0 n0 x0 F.out.1 (by omega))
  have c10 := G1.cell (i := 0) rfl
  have c11 := G1.cell (i := 1) rfl
  have c12 := G1.cell (i := 2) rfl
  have c00 := G0.cell (i := 0) rfl
  have c01 := G0.cell (i := 1) rfl
  have c02 := G0.cell (i := 2) rfl
  go_wp2_with fail
  refine (dcmp hA1 hA0).mono ?_
  rintro e v2 ⟨z2, q2, rfl, b, hR, hQ⟩
  have R2 := Lib.hid hR
  have Q2 := Lib.hid hQ
  clear hR hQ
  clear c10 c11 c12 c00 c01 c02
  have hok : (mayB m1 x1 && mayB m0 x0) = true := by rw [hm1.out, hm.out]; rfl
  have hq : q2 = 0 := by rw [← Q2.out, hok]; rfl
  have hz : Hid (z2 = cmpZ (dv 1048576 s1 n1 x1) (dv 1048576 s0 n0 x0)) := Lib.hid (by rw [← R2.out, hok, if_pos rfl]; exact hcmp.out)
  subst hq
  clear hok R2 Q2 hcmp
  have hA0 := hA0.behind b
  have G0 := G0.behind b
  have hA1 := hA1.behind b
  have G1 := G1.behind b
  have N1 := N1.behind b
  have hT := hT.behind b
  have B := below_both B b
  clear b
  have hz0 : 0 ≤ z2 ∧ z2 ≤ 1 := by
    obtain ⟨-, -, f1, f2⟩ := F.out
    have h1 : dv 1048576 s0 n0 x0 ≤ dv 1048576 s1 n1 x1 := by
      by_cases hc : (nbits n0 : Int) ≤ max bits 1
      · rw [f1 hc]; exact Int.le_refl _
      · exact (f2 ((nbits n0 : Int) - max bits 1).toNat (by omega) (by omega)).1
    rw [hz.out]
    unfold cmpZ
    split
    · omega
    · split <;> omega
  obtain ⟨hz0, hz1⟩ := hz0
  have hzd : decide (z2 < 0) = false := decide_eq_false (by omega)
  have hnb := F.out.2.1
  have hn0 : nbits n0 ≤ 65536 := nbits_num hA0
  generalize hB1 : max bits 1 = B1 at hnb
  have hB2 : 1 ≤ B1 ∧ B1 < 9223372036854775808 := by omega
  obtain ⟨hB2, hB3⟩ := hB2
  have hnd : decide (B1 < (nbits n1 : Int)) = false := decide_eq_false (by omega)
  have c10 := G1.cell (i := 0) rfl
  have c11 := G1.cell (i := 1) rfl
  have c12 := G1.cell (i := 2) rfl
  go_wp2_with fail
  refine (of_num hA1 (by omega)).mono ?_
  rintro e v3 ⟨u3, rfl, rn3, b⟩
  clear c10 c11 c12
  have hA0 := hA0.behind b
  have G0 := G0.behind b
  have hA1 := hA1.behind b
  have G1 := G1.behind b
  have N1 := N1.behind b
  have hT := hT.behind b
  have B := below_both B b
  clear b
  go_wp2_with fail
  refine (rbits_num rn3 (by omega)).mono ?_
  rintro e v4 ⟨rfl, b⟩
  have hA0 := hA0.behind b
  have G0 := G0.behind b
  have hA1 := hA1.behind b
  have G1 := G1.behind b
  have N1 := N1.behind b
  have hT := hT.behind b
  have B := below_both B b
  clear b
  have c00 := G0.cell (i := 0) rfl
  have c01 := G0.cell (i := 1) rfl
  have c02 := G0.cell (i := 2) rfl
  go_wp2_with fail
  refine (of_num hA0 (by omega)).mono ?_
  rintro e v5 ⟨u5, rfl, rn5, b⟩
  clear c00 c01 c02
  have hA0 := hA0.behind b
  have G0 := G0.behind b
  have hA1 := hA1.behind b
  have G1 := G1.behind b
  have N1 := N1.behind b
  have hT := hT.behind b
  have B := below_both B b
  clear b
  go_wp2_with fail
  refine (rbits_num rn5 (by omega)).mono ?_
  rintro e v6 ⟨rfl, b⟩
  have hA0 := hA0.behind b
  have G0 := G0.behind b
  have hA1 := hA1.behind b
  have G1 := G1.behind b
  have N1 := N1.behind b
  have hT := hT.behind b
  have B := below_both B b
  clear b
  have hw : IntKind.i64.wrap ((nbits n0 : Int) - B1) = (nbits n0 : Int) - B1 := IntWalk.i64_in _ (by omega)
  have hle : decide ((nbits n0 : Int) - B1 ≤ 0) = true := decide_eq_true (by omega)
  have hz2 : z2 = 0 := by
    rw [hz.out, F.out.2.2.1 (by omega)]
    simp [cmpZ]
  subst hz2
  go_wp2
  go_ret
  exact ⟨rfl, B⟩
set_option maxRecDepth 100000 in
set_option maxHeartbeats 4000000 in
theorem abl_many {s0 : Bool} {a0 : Option Addr} {m0 k0 n0 i : Nat} {x0 bits : Int} {w : World} (hA0 : Num w (.slice a0 m0 k0) n0 i) (hT : TabOk w) (hb1 : -9223372036854775808 ≤ bits) (hb2 : bits < 9223372036854775808) (hm : Hid (mayB m0 x0 = true)) (hf : Hid (fits (aboveD s0 n0 x0 bits) = true)) {v : Nat} (hv : (nbits n0 : Int) = max bits 1 + v) (hv0 : 0 < v) :
    Calls Tryd.prog 5 #[.agg #[.bool s0, .slice a0 m0 k0, .int .i64 x0], .int .i64 bits] w fun e W' => e = .returned (.bool true) ∧ Below w.heap.size w W' := by
  obtain ⟨hE1, hE2, hm0⟩ := mayB_iff.1 hm.out
  have hA0 := num_may hA0 hm0
  have hb := dbox1 w #[.bool s0, .slice a0 m0 k0, .int .i64 x0] 24
  have hbs := fun (W : World) (s : Bool) (a : Option Addr) (m c : Nat) (x : Int) => dbox1 W #[.bool s, .slice a m c, .int .i64 x] 24
  go_enter Tryd.func5, Tryd.ntmps5
  go_wp2_with fail
  obtain ⟨hB, G0, hsz⟩ := hb _ rfl
  generalize (w.alloc (.cells #[.bool s0, .slice a0 m0 k0, .int .i64 x0] 24)) = W0 at hB G0 hsz ⊢
  clear hb
  have hT := hT.behind hB
  refine (lalive W0 hT).mono ?_
  rintro e w1 ⟨rfl, b1⟩
  have hT := hT.behind b1
  have hA0 := (hA0.behind hB).behind b1
  have G0 := G0.behind b1
  have B := below_both hB b1
  clear b1 hB
  have c00 := G0.cell (i := 0) rfl
  have c01 := G0.cell (i := 1) rfl
  have c02 := G0.cell (i := 2) rfl
  go_wp2_with fail
  refine (dabove hA0 hT hb1 hb2).mono ?_
  rintro e v1 ⟨a1, m1, k1, s1, n1, x1, q1, rfl, N1, b, hR, hQ⟩
  have R1 := Lib.hid hR
  have Q1 := Lib.hid hQ
  clear hR hQ
  clear c00 c01 c02
  have hq : q1 = 0 := by rw [← Q1.out, hm.out, resE, if_pos rfl, outE, if_pos hf.out]
  subst hq
  have hl1 := res_len R1.out
  have hm1 := Lib.hid (res_may R1.out N1)
  have F := Lib.hid (above_facts (s := s0) (M := n0) (E := x0) (bits := bits) (r := ⟨s1, n1, x1⟩) 1048576 (by omega) (by rw [← R1.out, hm.out, resD, if_pos rfl, outD, if_pos hf.out]))
  clear R1 Q1
  obtain ⟨bx, G1, -⟩ := hbs v1 s1 a1 m1 k1 x1 _ rfl
  have hA0 := (hA0.behind b).behind bx
  have G0 := (G0.behind b).behind bx
  have hT := (hT.behind b).behind bx
  have hA1 := (N1.numl hl1).behind bx
  have N1 := N1.behind bx
  have B := below_both (below_both B b) bx
  clear b bx
  have hcmp := Lib.hid (dv_cmp 1048576 s1 n1 x1 s0 n0 x0 F.out.1 (by omega))
  have c10 := G1.cell (i := 0) rfl
  have c11 := G1.cell (i := 1) rfl
  have c12 := G1.cell (i := 2) rfl
  have c00 := G0.cell (i := 0) rfl
  have c01 := G0.cell (i := 1) rfl
  have c02 := G0.cell (i := 2) rfl
  go_wp2_with fail
  refine (dcmp hA1 hA0).mono ?_
  rintro e v2 ⟨z2, q2, rfl, b, hR, hQ⟩
  have R2 := Lib.hid hR
  have Q2 := Lib.hid hQ
  clear hR hQ
  clear c10 c11 c12 c00 c01 c02
  have hok : (mayB m1 x1 && mayB m0 x0) = true := by rw [hm1.out, hm.out]; rfl
  have hq : q2 = 0 := by rw [← Q2.out, hok]; rfl
  have hz : Hid (z2 = cmpZ (dv 1048576 s1 n1 x1) (dv 1048576 s0 n0 x0)) := Lib.hid (by rw [← R2.out, hok, if_pos rfl]; exact hcmp.out)
  subst hq
  clear hok R2 Q2 hcmp
  have hA0 := hA0.behind b
  have G0 := G0.behind b
  have hA1 := hA1.behind b
  have G1 := G1.behind b
  have N1 := N1.behind b
  have hT := hT.behind b
  have B := below_both B b
  clear b
  have hz0 : 0 ≤ z2 ∧ z2 ≤ 1 := by
    obtain ⟨-, -, f1, f2⟩ := F.out
    have h1 : dv 1048576 s0 n0 x0 ≤ dv 1048576 s1 n1 x1 := by
      by_cases hc : (nbits n0 : Int) ≤ max bits 1
      · rw [f1 hc]; exact Int.le_refl _
      · exact (f2 ((nbits n0 : Int) - max bits 1).toNat (by omega) (by omega)).1
    rw [hz.out]
    unfold cmpZ
    split
    · omega
    · split <;> omega
  obtain ⟨hz0, hz1⟩ := hz0
  have hzd : decide (z2 < 0) = false := decide_eq_false (by omega)
  have hnb := F.out.2.1
  have hn0 : nbits n0 ≤ 65536 := nbits_num hA0
  generalize hB1 : max bits 1 = B1 at hnb
  have hB2 : 1 ≤ B1 ∧ B1 < 9223372036854775808 := by omega
  obtain ⟨hB2, hB3⟩ := hB2
  have hnd : decide (B1 < (nbits n1 : Int)) = false := decide_eq_false (by omega)
  have c10 := G1.cell (i := 0) rfl
  have c11 := G1.cell (i := 1) rfl
  have c12 := G1.cell (i := 2) rfl
  go_wp2_with fail
  refine (of_num hA1 (by omega)).mono ?_
  rintro e v3 ⟨u3, rfl, rn3, b⟩
  clear c10 c11 c12
  have hA0 := hA0.behind b
  have G0 := G0.behind b
  have hA1 := hA1.behind b
  have G1 := G1.behind b
  have N1 := N1.behind b
  have hT := hT.behind b
  have B := below_both B b
  clear b
  go_wp2_with fail
  refine (rbits_num rn3 (by omega)).mono ?_
  rintro e v4 ⟨rfl, b⟩
  have hA0 := hA0.behind b
  have G0 := G0.behind b
  have hA1 := hA1.behind b
  have G1 := G1.behind b
  have N1 := N1.behind b
  have hT := hT.behind b
  have B := below_both B b
  clear b
  have c00 := G0.cell (i := 0) rfl
  have c01 := G0.cell (i := 1) rfl
  have c02 := G0.cell (i := 2) rfl
  go_wp2_with fail
  refine (of_num hA0 (by omega)).mono ?_
  rintro e v5 ⟨u5, rfl, rn5, b⟩
  clear c00 c01 c02
  have hA0 := hA0.behind b
  have G0 := G0.behind b
  have hA1 := hA1.behind b
  have G1 := G1.behind b
  have N1 := N1.behind b
  have hT := hT.behind b
  have B := below_both B b
  clear b
  go_wp2_with fail
  refine (rbits_num rn5 (by omega)).mono ?_
  rintro e v6 ⟨rfl, b⟩
  have hA0 := hA0.behind b
  have G0 := G0.behind b
  have hA1 := hA1.behind b
  have G1 := G1.behind b
  have N1 := N1.behind b
  have hT := hT.behind b
  have B := below_both B b
  clear b
  have hv2 : (nbits n0 : Int) - B1 = v := by omega
  have hvb : v ≤ 65536 := by omega
  have FM := Lib.hid (F.out.2.2.2 v hv hv0)
  clear hv
  have hw : IntKind.i64.wrap ((nbits n0 : Int) - B1) = v := by rw [hv2]; exact IntWalk.i64_in _ (by omega)
  have hle : decide ((v : Int) ≤ 0) = false := decide_eq_false (by omega)
  have hle2 : decide (v = 0) = false := decide_eq_false (by omega)
  have hwE : IntKind.i64.wrap (x0 + v) = x0 + v := IntWalk.i64_in _ (by omega)
  have hmx : max (x0 + v) (-16384) = x0 + v := by omega
  obtain ⟨y, hy⟩ : ∃ y, min (x0 + v) 16384 = y := ⟨_, rfl⟩
  have hyb : -16384 ≤ y ∧ y ≤ 16384 := by omega
  have ho := Lib.hid (of_one hyb.1 hyb.2)
  have c00 := G0.cell (i := 0) rfl
  have c01 := G0.cell (i := 1) rfl
  have c02 := G0.cell (i := 2) rfl
  go_wp2_with fail
  refine (dof (n := 1) (E := y) (by decide) (by decide) hT).mono ?_
  rintro e v7 ⟨a7, m7, k7, s7, n7, x7, q7, rfl, N7, b, hR, hQ⟩
  rw [ho.out.1] at hR
  rw [ho.out.2] at hQ
  clear c00 c01 c02
  subst hQ
  simp only [Dn.mk.injEq] at hR
  obtain ⟨rfl, rfl, rfl⟩ := hR
  have hl7 : (digs 18446744073709551616 1).length ≤ 1024 := by rw [digs_small (by decide) (by decide) (by decide)]; simp
  have hm7 := Lib.hid (show mayB m7 y = true from mayB_iff.2 ⟨hyb.1, hyb.2, by rw [res_slice N7]; exact hl7⟩)
  obtain ⟨bx, G7, -⟩ := hbs v7 false a7 m7 k7 y _ rfl
  have hA0 := (hA0.behind b).behind bx
  have G0 := (G0.behind b).behind bx
  have hA1 := (hA1.behind b).behind bx
  have G1 := (G1.behind b).behind bx
  have hT := (hT.behind b).behind bx
  have hA7 := (N7.numl hl7).behind bx
  have B := below_both (below_both B b) bx
  clear b bx N7 N1 hl7
  have c10 := G1.cell (i := 0) rfl
  have c11 := G1.cell (i := 1) rfl
  have c12 := G1.cell (i := 2) rfl
  have c00 := G0.cell (i := 0) rfl
  have c01 := G0.cell (i := 1) rfl
  have c02 := G0.cell (i := 2) rfl
  go_wp2_with fail
  refine (dsub hA1 hA0 hT).mono ?_
  rintro e v8 ⟨a8, m8, k8, s8, n8, x8, q8, rfl, N8, b, hR, hQ⟩
  have R8 := Lib.hid hR
  have Q8 := Lib.hid hQ
  clear hR hQ
  clear c10 c11 c12 c00 c01 c02
  have hl8 := res_len R8.out
  have hm8 := Lib.hid (res_may R8.out N8)
  obtain ⟨bx, G8, -⟩ := hbs v8 s8 a8 m8 k8 x8 _ rfl
  have hA0 := (hA0.behind b).behind bx
  have G0 := (G0.behind b).behind bx
  have hA1 := (hA1.behind b).behind bx
  have G1 := (G1.behind b).behind bx
  have hA7 := (hA7.behind b).behind bx
  have G7 := (G7.behind b).behind bx
  have hT := (hT.behind b).behind bx
  have hA8 := (N8.numl hl8).behind bx
  have N8 := N8.behind bx
  have B := below_both (below_both B b) bx
  clear b bx
  by_cases h8 : q8 = 0
  case neg =>
    have hq := res_q h8
    clear G1 G7 G8
    go_wp2
    all_goals go_ret
    all_goals exact ⟨rfl, B⟩
  subst h8
  by_cases hbig : 16384 < x0 + v
  · have hd : decide (16384 < x0 + (v : Int)) = true := decide_eq_true hbig
    clear G1 G7 G8
    have c00 := G0.cell (i := 0) rfl
    have c01 := G0.cell (i := 1) rfl
    have c02 := G0.cell (i := 2) rfl
    go_wp2
    go_ret
    exact ⟨rfl, B⟩
  · have hd : decide (16384 < x0 + (v : Int)) = false := decide_eq_false hbig
    have hyx := Lib.hid (show y = x0 + v by omega)
    have hlt : Hid (cmpD s8 n8 x8 false 1 y = -1) := Lib.hid (by
      rw [hyx.out]
      obtain ⟨o8, e8⟩ := resE_zero Q8.out
      have e9 := e8.symm.trans R8.out
      obtain ⟨f1, f2, -⟩ := dv_sum 1048576 s1 n1 x1 (!s0) n0 x0 F.out.1 (by omega) e9
      dsimp only at f1 f2
      rw [dv_cmp 1048576 _ _ _ _ _ _ f2 (by omega), f1, show dv 1048576 (!s0) n0 x0 = -dv 1048576 s0 n0 x0 by unfold dv; rw [wn_not, Int.neg_mul]]
      have := FM.out.2
      unfold cmpZ
      rw [if_pos (by omega)])
    clear R8 Q8
    have c00 := G0.cell (i := 0) rfl
    have c01 := G0.cell (i := 1) rfl
    have c02 := G0.cell (i := 2) rfl
    have c80 := G8.cell (i := 0) rfl
    have c81 := G8.cell (i := 1) rfl
    have c82 := G8.cell (i := 2) rfl
    have c70 := G7.cell (i := 0) rfl
    have c71 := G7.cell (i := 1) rfl
    have c72 := G7.cell (i := 2) rfl
    go_wp2_with fail
    refine (dcmp hA8 hA7).mono ?_
    rintro e v9 ⟨z9, q9, rfl, b, hR, hQ⟩
    rw [hm8.out, hm7.out, Bool.and_self, if_pos rfl] at hR hQ
    rw [hlt.out] at hR
    subst hR hQ
    have B := below_both B b
    clear c00 c01 c02 c80 c81 c82 c70 c71 c72
    go_wp2
    go_ret
    exact ⟨rfl, B⟩
theorem abl_walk {s0 : Bool} {a0 : Option Addr} {m0 k0 n0 i : Nat} {x0 bits : Int} {w : World} (hA0 : Num w (.slice a0 m0 k0) n0 i) (hT : TabOk w) (hb1 : -9223372036854775808 ≤ bits) (hb2 : bits < 9223372036854775808) :
    Calls Tryd.prog 5 #[.agg #[.bool s0, .slice a0 m0 k0, .int .i64 x0], .int .i64 bits] w fun e W' => e = .returned (.bool true) ∧ Below w.heap.size w W' := by
  by_cases hm : mayB m0 x0 = true
  · by_cases hf : fits (aboveD s0 n0 x0 bits) = true
    · by_cases hv : (nbits n0 : Int) ≤ max bits 1
      · exact abl_few hA0 hT hb1 hb2 (Lib.hid hm) (Lib.hid hf) hv
      · exact abl_many hA0 hT hb1 hb2 (Lib.hid hm) (Lib.hid hf) (v := ((nbits n0 : Int) - max bits 1).toNat) (by omega) (by omega)
    · exact abl_far hA0 hT hb1 hb2 (Lib.hid hm) (Lib.hid hf)
  · exact abl_no hA0 hT hb1 hb2 (Lib.hid (by simpa using hm))
end Go.Proofs.YthipbonhkcjcfaaDoor
