/- vernierlaw04.DyadicRing: true, whatever the numbers. -/
import Derived.Test.YthipbonhkcjcfaaDoorDyLaw
import Derived.Test.YthipbonhkcjcfaaDoorDyVal
namespace Go.Proofs.YthipbonhkcjcfaaDoor
open Go.RowKit Go.Shelf
attribute [local go_sem ↓] Go.wp_at_zero Go.wp_at_succ

theorem New.numl {n : Nat} {W : World} {v : Value} {N k : Nat} (nt : New n W v (digs 18446744073709551616 N)) (h : (digs 18446744073709551616 N).length ≤ k) : Num W v N k :=
  ⟨_, nt.arg, digs_low (by decide) N, val_digs (by decide) N, h⟩
theorem res_len {ok : Bool} {r : Dn} {s : Bool} {n : Nat} {x : Int} (h : resD ok r = ⟨s, n, x⟩) : (digs 18446744073709551616 n).length ≤ 1024 := by
  have := resD_fits ok r
  rw [h, fits_iff] at this
  exact this.2.2
theorem res_slice {n N : Nat} {W : World} {a : Option Addr} {m c : Nat} (nt : New n W (.slice a m c) (digs 18446744073709551616 N)) : m = (digs 18446744073709551616 N).length := by
  obtain ⟨a', c', e, _⟩ := nt.slice
  cases e; rfl
theorem res_may {ok : Bool} {r : Dn} {s : Bool} {n : Nat} {x : Int} {k : Nat} {W : World} {a : Option Addr} {m c : Nat} (h : resD ok r = ⟨s, n, x⟩) (nt : New k W (.slice a m c) (digs 18446744073709551616 n)) : mayB m x = true := by
  have := resD_fits ok r
  rw [h] at this
  rw [res_slice nt]
  exact this
theorem res_q {q : Int} (h : q ≠ 0) : (q == 0) = false := by simpa using h
set_option maxRecDepth 100000 in
set_option maxHeartbeats 4000000 in
theorem dyring_walk {s0 s1 s2 : Bool} {a0 a1 a2 : Option Addr} {m0 k0 m1 k1 m2 k2 n0 n1 n2 i : Nat} {x0 x1 x2 : Int} {w : World} (hi : 1024 ≤ i) (hA0 : Num w (.slice a0 m0 k0) n0 i) (hA1 : Num w (.slice a1 m1 k1) n1 i) (hA2 : Num w (.slice a2 m2 k2) n2 i) (hT : TabOk w) :
    Calls Tryd.prog 6 #[.agg #[.bool s0, .slice a0 m0 k0, .int .i64 x0], .agg #[.bool s1, .slice a1 m1 k1, .int .i64 x1], .agg #[.bool s2, .slice a2 m2 k2, .int .i64 x2]] w fun e W' => e = .returned (.bool true) ∧ Below w.heap.size w W' := by
  have hb := dbox3 w #[.bool s0, .slice a0 m0 k0, .int .i64 x0] #[.bool s1, .slice a1 m1 k1, .int .i64 x1] #[.bool s2, .slice a2 m2 k2, .int .i64 x2] 24 24 24
  have hbs := fun (W : World) (s : Bool) (a : Option Addr) (m c : Nat) (x : Int) => dbox1 W #[.bool s, .slice a m c, .int .i64 x] 24
  go_enter Tryd.func6, Tryd.ntmps6
  go_wp2_with fail
  obtain ⟨hB, G0, G1, G2, hsz⟩ := hb _ rfl
  generalize (((w.alloc (.cells #[.bool s0, .slice a0 m0 k0, .int .i64 x0] 24)).alloc (.cells #[.bool s1, .slice a1 m1 k1, .int .i64 x1] 24)).alloc (.cells #[.bool s2, .slice a2 m2 k2, .int .i64 x2] 24)) = W0 at hB G0 G1 G2 hsz ⊢
  clear hb
  have hT := hT.behind hB
  refine (lalive W0 hT).mono ?_
  rintro e w1 ⟨rfl, b1⟩
  have hT := hT.behind b1
  have hA0 := (hA0.behind hB).behind b1
  have G0 := G0.behind b1
  have hA1 := (hA1.behind hB).behind b1
  have G1 := G1.behind b1
  have hA2 := (hA2.behind hB).behind b1
  have G2 := G2.behind b1
  have B := below_both hB b1
  clear b1 hB
  have c10 := G1.cell (i := 0) rfl
  have c11 := G1.cell (i := 1) rfl
  have c12 := G1.cell (i := 2) rfl
  have c20 := G2.cell (i := 0) rfl
  have c21 := G2.cell (i := 1) rfl
  have c22 := G2.cell (i := 2) rfl
  go_wp2_with fail
  refine (dadd hA1 hA2 hT).mono ?_
  rintro e v3 ⟨a3, m3, k3, s3, n3, x3, q3, rfl, N3, b, hR, hQ⟩
  have R3 := Lib.hid hR
  have Q3 := Lib.hid hQ
  have hA3 := (N3.numl (res_len hR)).wide hi
  clear hR hQ c10 c11 c12 c20 c21 c22
  obtain ⟨bx, G3, -⟩ := hbs v3 s3 a3 m3 k3 x3 _ rfl
  have hA0 := (hA0.behind b).behind bx
  have G0 := (G0.behind b).behind bx
  have hA1 := (hA1.behind b).behind bx
  have G1 := (G1.behind b).behind bx
  have hA2 := (hA2.behind b).behind bx
  have G2 := (G2.behind b).behind bx
  have hA3 := hA3.behind bx
  have N3 := N3.behind bx
  have hT := (hT.behind b).behind bx
  have B := below_both (below_both B b) bx
  clear b bx
  have c00 := G0.cell (i := 0) rfl
  have c01 := G0.cell (i := 1) rfl
  have c02 := G0.cell (i := 2) rfl
  have c30 := G3.cell (i := 0) rfl
  have c31 := G3.cell (i := 1) rfl
  have c32 := G3.cell (i := 2) rfl
  go_wp2_with fail
  refine (dmul hA0 hA3 hT).mono ?_
  rintro e v4 ⟨a4, m4, k4, s4, n4, x4, q4, rfl, N4, b, hR, hQ⟩
  have R4 := Lib.hid hR
  have Q4 := Lib.hid hQ
  have hA4 := (N4.numl (res_len hR)).wide hi
  clear hR hQ c00 c01 c02 c30 c31 c32
  obtain ⟨bx, G4, -⟩ := hbs v4 s4 a4 m4 k4 x4 _ rfl
  have hA0 := (hA0.behind b).behind bx
  have G0 := (G0.behind b).behind bx
  have hA1 := (hA1.behind b).behind bx
  have G1 := (G1.behind b).behind bx
  have hA2 := (hA2.behind b).behind bx
  have G2 := (G2.behind b).behind bx
  have hA3 := (hA3.behind b).behind bx
  have G3 := (G3.behind b).behind bx
  have N3 := (N3.behind b).behind bx
  have hA4 := hA4.behind bx
  have N4 := N4.behind bx
  have hT := (hT.behind b).behind bx
  have B := below_both (below_both B b) bx
  clear b bx
  have c00 := G0.cell (i := 0) rfl
  have c01 := G0.cell (i := 1) rfl
  have c02 := G0.cell (i := 2) rfl
  have c10 := G1.cell (i := 0) rfl
  have c11 := G1.cell (i := 1) rfl
  have c12 := G1.cell (i := 2) rfl
  go_wp2_with fail
  refine (dmul hA0 hA1 hT).mono ?_
  rintro e v5 ⟨a5, m5, k5, s5, n5, x5, q5, rfl, N5, b, hR, hQ⟩
  have R5 := Lib.hid hR
  have Q5 := Lib.hid hQ
  have hA5 := (N5.numl (res_len hR)).wide hi
  clear hR hQ c00 c01 c02 c10 c11 c12
  obtain ⟨bx, G5, -⟩ := hbs v5 s5 a5 m5 k5 x5 _ rfl
  have hA0 := (hA0.behind b).behind bx
  have G0 := (G0.behind b).behind bx
  have hA1 := (hA1.behind b).behind bx
  have G1 := (G1.behind b).behind bx
  have hA2 := (hA2.behind b).behind bx
  have G2 := (G2.behind b).behind bx
  have hA3 := (hA3.behind b).behind bx
  have G3 := (G3.behind b).behind bx
  have hA4 := (hA4.behind b).behind bx
  have G4 := (G4.behind b).behind bx
  have N3 := (N3.behind b).behind bx
  have N4 := (N4.behind b).behind bx
  have hA5 := hA5.behind bx
  have N5 := N5.behind bx
  have hT := (hT.behind b).behind bx
  have B := below_both (below_both B b) bx
  clear b bx
  have c00 := G0.cell (i := 0) rfl
  have c01 := G0.cell (i := 1) rfl
  have c02 := G0.cell (i := 2) rfl
  have c20 := G2.cell (i := 0) rfl
  have c21 := G2.cell (i := 1) rfl
  have c22 := G2.cell (i := 2) rfl
  go_wp2_with fail
  refine (dmul hA0 hA2 hT).mono ?_
  rintro e v6 ⟨a6, m6, k6, s6, n6, x6, q6, rfl, N6, b, hR, hQ⟩
  have R6 := Lib.hid hR
  have Q6 := Lib.hid hQ
  have hA6 := (N6.numl (res_len hR)).wide hi
  clear hR hQ c00 c01 c02 c20 c21 c22
  obtain ⟨bx, G6, -⟩ := hbs v6 s6 a6 m6 k6 x6 _ rfl
  have hA0 := (hA0.behind b).behind bx
  have G0 := (G0.behind b).behind bx
  have hA1 := (hA1.behind b).behind bx
  have G1 := (G1.behind b).behind bx
  have hA2 := (hA2.behind b).behind bx
  have G2 := (G2.behind b).behind bx
  have hA3 := (hA3.behind b).behind bx
  have G3 := (G3.behind b).behind bx
  have hA4 := (hA4.behind b).behind bx
  have G4 := (G4.behind b).behind bx
  have hA5 := (hA5.behind b).behind bx
  have G5 := (G5.behind b).behind bx
  have N3 := (N3.behind b).behind bx
  have N4 := (N4.behind b).behind bx
  have N5 := (N5.behind b).behind bx
  have hA6 := hA6.behind bx
  have N6 := N6.behind bx
  have hT := (hT.behind b).behind bx
  have B := below_both (below_both B b) bx
  clear b bx
  have c50 := G5.cell (i := 0) rfl
  have c51 := G5.cell (i := 1) rfl
  have c52 := G5.cell (i := 2) rfl
  have c60 := G6.cell (i := 0) rfl
  have c61 := G6.cell (i := 1) rfl
  have c62 := G6.cell (i := 2) rfl
  go_wp2_with fail
  refine (dadd hA5 hA6 hT).mono ?_
  rintro e v7 ⟨a7, m7, k7, s7, n7, x7, q7, rfl, N7, b, hR, hQ⟩
  have R7 := Lib.hid hR
  have Q7 := Lib.hid hQ
  have hA7 := (N7.numl (res_len hR)).wide hi
  clear hR hQ c50 c51 c52 c60 c61 c62
  obtain ⟨bx, G7, -⟩ := hbs v7 s7 a7 m7 k7 x7 _ rfl
  have hA0 := (hA0.behind b).behind bx
  have G0 := (G0.behind b).behind bx
  have hA1 := (hA1.behind b).behind bx
  have G1 := (G1.behind b).behind bx
  have hA2 := (hA2.behind b).behind bx
  have G2 := (G2.behind b).behind bx
  have hA3 := (hA3.behind b).behind bx
  have G3 := (G3.behind b).behind bx
  have hA4 := (hA4.behind b).behind bx
  have G4 := (G4.behind b).behind bx
  have hA5 := (hA5.behind b).behind bx
  have G5 := (G5.behind b).behind bx
  have hA6 := (hA6.behind b).behind bx
  have G6 := (G6.behind b).behind bx
  have N3 := (N3.behind b).behind bx
  have N4 := (N4.behind b).behind bx
  have N5 := (N5.behind b).behind bx
  have N6 := (N6.behind b).behind bx
  have hA7 := hA7.behind bx
  have N7 := N7.behind bx
  have hT := (hT.behind b).behind bx
  have B := below_both (below_both B b) bx
  clear b bx
  by_cases h3 : q3 = 0
  case neg =>
    have hq := res_q h3
    clear G0 G1 G2 G3 G4 G5 G6 G7
    go_wp2
    go_ret
    exact ⟨rfl, B⟩
  by_cases h4 : q4 = 0
  case neg =>
    have hq := res_q h4
    subst h3
    clear G0 G1 G2 G3 G4 G5 G6 G7
    go_wp2
    go_ret
    exact ⟨rfl, B⟩
  by_cases h5 : q5 = 0
  case neg =>
    have hq := res_q h5
    subst h3
    subst h4
    clear G0 G1 G2 G3 G4 G5 G6 G7
    go_wp2
    go_ret
    exact ⟨rfl, B⟩
  by_cases h6 : q6 = 0
  case neg =>
    have hq := res_q h6
    subst h3
    subst h4
    subst h5
    clear G0 G1 G2 G3 G4 G5 G6 G7
    go_wp2
    go_ret
    exact ⟨rfl, B⟩
  by_cases h7 : q7 = 0
  case neg =>
    have hq := res_q h7
    subst h3
    subst h4
    subst h5
    subst h6
    clear G0 G1 G2 G3 G4 G5 G6 G7
    go_wp2
    go_ret
    exact ⟨rfl, B⟩
  obtain ⟨o3, e3⟩ := resE_zero (Q3.out.trans h3)
  obtain ⟨o4, e4⟩ := resE_zero (Q4.out.trans h4)
  obtain ⟨o5, e5⟩ := resE_zero (Q5.out.trans h5)
  obtain ⟨o6, e6⟩ := resE_zero (Q6.out.trans h6)
  obtain ⟨o7, e7⟩ := resE_zero (Q7.out.trans h7)
  rw [Bool.and_eq_true, mayB_iff, mayB_iff] at o5 o6
  have key := ring_same 1048576 (by omega) (by omega) (by omega) (e3.symm.trans R3.out) (e4.symm.trans R4.out) (e5.symm.trans R5.out) (e6.symm.trans R6.out) (e7.symm.trans R7.out)
  have hl := res_len R7.out
  clear o3 o4 o5 o6 o7 e3 e4 e5 e6 e7 R3 R4 R5 R6 R7 Q3 Q4 Q5 Q6 Q7
  simp only [Dn.mk.injEq] at key
  obtain ⟨rfl, rfl, rfl⟩ := key
  subst h3 h4 h5 h6 h7
  have HL := Lib.hid (show (digs 18446744073709551616 n4).length ≤ 9223372036854775806 by omega)
  clear hl
  have c40 := G4.cell (i := 0) rfl
  have c41 := G4.cell (i := 1) rfl
  have c42 := G4.cell (i := 2) rfl
  have c70 := G7.cell (i := 0) rfl
  have c71 := G7.cell (i := 1) rfl
  have c72 := G7.cell (i := 2) rfl
  clear G0 G1 G2 G3 G4 G5 G6 G7 hA0 hA1 hA2 hA3 hA4 hA5 hA6 hA7
  go_wp2_with fail
  refine (lsame N4 N7 HL.out).mono ?_
  rintro e v8 ⟨rfl, b⟩
  go_wp2
  go_ret
  exact ⟨rfl, below_both B b⟩
end Go.Proofs.YthipbonhkcjcfaaDoor
