/- vernierlaw04.DyadicTells: true, whatever the two numbers. -/
import Derived.Test.YthipbonhkcjcfaaDoorDyIs
namespace Go.Proofs.YthipbonhkcjcfaaDoor
open Go.RowKit Go.Shelf
attribute [local go_sem ↓] Go.wp_at_zero Go.wp_at_succ

set_option maxRecDepth 100000 in
set_option maxHeartbeats 8000000 in
theorem tells_no0 {s0 s1 : Bool} {a0 a1 : Option Addr} {m0 k0 m1 k1 n0 n1 i : Nat} {x0 x1 : Int} {w : World} (hA0 : Num w (.slice a0 m0 k0) n0 i) (hA1 : Num w (.slice a1 m1 k1) n1 i) (hT : TabOk w) (h0 : Hid (mayB m0 x0 = false)) :
    Calls Tryd.prog 3 #[.agg #[.bool s0, .slice a0 m0 k0, .int .i64 x0], .agg #[.bool s1, .slice a1 m1 k1, .int .i64 x1]] w fun e W' => e = .returned (.bool true) ∧ Below w.heap.size w W' := by
  have hb := dbox2 w #[.bool s0, .slice a0 m0 k0, .int .i64 x0] #[.bool s1, .slice a1 m1 k1, .int .i64 x1] 24 24
  have hbs := fun (W : World) (s : Bool) (a : Option Addr) (m c : Nat) (x : Int) => dbox1 W #[.bool s, .slice a m c, .int .i64 x] 24
  go_enter Tryd.func3, Tryd.ntmps3
  go_wp2_with fail
  obtain ⟨hB, G0, G1, hsz⟩ := hb _ rfl
  generalize ((w.alloc (.cells #[.bool s0, .slice a0 m0 k0, .int .i64 x0] 24)).alloc (.cells #[.bool s1, .slice a1 m1 k1, .int .i64 x1] 24)) = W0 at hB G0 G1 hsz ⊢
  clear hb
  replace hT := hT.behind hB
  refine (lalive W0 hT).mono ?_
  rintro e w1 ⟨rfl, b1⟩
  replace hT := hT.behind b1
  replace hA0 := (hA0.behind hB).behind b1
  replace hA1 := (hA1.behind hB).behind b1
  replace G0 := G0.behind b1
  replace G1 := G1.behind b1
  have B := below_both hB b1
  clear b1 hB
  have c00 := G0.cell (i := 0) rfl
  have c01 := G0.cell (i := 1) rfl
  have c02 := G0.cell (i := 2) rfl
  have c10 := G1.cell (i := 0) rfl
  have c11 := G1.cell (i := 1) rfl
  have c12 := G1.cell (i := 2) rfl
  go_wp2_with fail
  refine (dadd hA0 hA1 hT).mono ?_
  rintro e v3 ⟨a3, m3, k3, s3, n3, x3, q3, rfl, N3, b, hR, hQ⟩
  have R3 := Lib.hid hR
  have Q3 := Lib.hid hQ
  clear hR hQ c00 c01 c02 c10 c11 c12
  obtain ⟨bx, G3, -⟩ := hbs v3 s3 a3 m3 k3 x3 _ rfl
  replace G0 := (G0.behind b).behind bx
  replace G1 := (G1.behind b).behind bx
  replace hA0 := (hA0.behind b).behind bx
  replace hA1 := (hA1.behind b).behind bx
  replace hT := (hT.behind b).behind bx
  replace N3 := N3.behind bx
  replace B := below_both (below_both B b) bx
  clear b bx
  have c00 := G0.cell (i := 0) rfl
  have c01 := G0.cell (i := 1) rfl
  have c02 := G0.cell (i := 2) rfl
  have c10 := G1.cell (i := 0) rfl
  have c11 := G1.cell (i := 1) rfl
  have c12 := G1.cell (i := 2) rfl
  go_wp2_with fail
  refine (dsub hA0 hA1 hT).mono ?_
  rintro e v4 ⟨a4, m4, k4, s4, n4, x4, q4, rfl, N4, b, hR, hQ⟩
  have R4 := Lib.hid hR
  have Q4 := Lib.hid hQ
  clear hR hQ c00 c01 c02 c10 c11 c12
  obtain ⟨bx, G4, -⟩ := hbs v4 s4 a4 m4 k4 x4 _ rfl
  replace G0 := (G0.behind b).behind bx
  replace G1 := (G1.behind b).behind bx
  replace G3 := (G3.behind b).behind bx
  replace hA0 := (hA0.behind b).behind bx
  replace hA1 := (hA1.behind b).behind bx
  replace N3 := (N3.behind b).behind bx
  replace hT := (hT.behind b).behind bx
  replace N4 := N4.behind bx
  replace B := below_both (below_both B b) bx
  clear b bx
  have c00 := G0.cell (i := 0) rfl
  have c01 := G0.cell (i := 1) rfl
  have c02 := G0.cell (i := 2) rfl
  have c10 := G1.cell (i := 0) rfl
  have c11 := G1.cell (i := 1) rfl
  have c12 := G1.cell (i := 2) rfl
  go_wp2_with fail
  refine (dmul hA0 hA1 hT).mono ?_
  rintro e v5 ⟨a5, m5, k5, s5, n5, x5, q5, rfl, N5, b, hR, hQ⟩
  have R5 := Lib.hid hR
  have Q5 := Lib.hid hQ
  clear hR hQ c00 c01 c02 c10 c11 c12
  obtain ⟨bx, G5, -⟩ := hbs v5 s5 a5 m5 k5 x5 _ rfl
  replace G0 := (G0.behind b).behind bx
  replace G1 := (G1.behind b).behind bx
  replace G3 := (G3.behind b).behind bx
  replace G4 := (G4.behind b).behind bx
  replace hA0 := (hA0.behind b).behind bx
  replace hA1 := (hA1.behind b).behind bx
  replace N3 := (N3.behind b).behind bx
  replace N4 := (N4.behind b).behind bx
  replace hT := (hT.behind b).behind bx
  replace N5 := N5.behind bx
  replace B := below_both (below_both B b) bx
  clear b bx
  have c00 := G0.cell (i := 0) rfl
  have c01 := G0.cell (i := 1) rfl
  have c02 := G0.cell (i := 2) rfl
  have c10 := G1.cell (i := 0) rfl
  have c11 := G1.cell (i := 1) rfl
  have c12 := G1.cell (i := 2) rfl
  go_wp2_with fail
  refine (dcmp hA0 hA1).mono ?_
  rintro e v6 ⟨z6, q6, rfl, b, hR, hQ⟩
  have R6 := Lib.hid hR
  have Q6 := Lib.hid hQ
  clear hR hQ c00 c01 c02 c10 c11 c12
  replace G0 := G0.behind b
  replace G1 := G1.behind b
  replace G3 := G3.behind b
  replace G4 := G4.behind b
  replace G5 := G5.behind b
  replace hA0 := hA0.behind b
  replace hA1 := hA1.behind b
  replace N3 := N3.behind b
  replace N4 := N4.behind b
  replace N5 := N5.behind b
  replace hT := hT.behind b
  replace B := below_both B b
  clear b
  have ok : (mayB m0 x0 && mayB m1 x1) = false := by rw [h0.out]; rfl
  have eR := R3.out
  have eQ := Q3.out
  rw [ok] at eR eQ
  obtain ⟨rfl, rfl, rfl⟩ := dn_eq eR.symm
  obtain rfl : q3 = 9 := eQ.symm
  clear eR eQ R3 Q3
  have eR := R4.out
  have eQ := Q4.out
  rw [ok] at eR eQ
  obtain ⟨rfl, rfl, rfl⟩ := dn_eq eR.symm
  obtain rfl : q4 = 9 := eQ.symm
  clear eR eQ R4 Q4
  have eR := R5.out
  have eQ := Q5.out
  rw [ok] at eR eQ
  obtain ⟨rfl, rfl, rfl⟩ := dn_eq eR.symm
  obtain rfl : q5 = 9 := eQ.symm
  clear eR eQ R5 Q5
  have eR := R6.out
  have eQ := Q6.out
  rw [ok] at eR eQ
  obtain rfl : z6 = 0 := eR.symm
  obtain rfl : q6 = 9 := eQ.symm
  clear eR eQ R6 Q6 ok
  have c00 := G0.cell (i := 0) rfl
  have c01 := G0.cell (i := 1) rfl
  have c02 := G0.cell (i := 2) rfl
  go_wp2_with fail
  refine (lmay_is h0.out _).mono ?_
  rintro e v7 ⟨rfl, b⟩
  replace G0 := G0.behind b
  replace G1 := G1.behind b
  replace G3 := G3.behind b
  replace G4 := G4.behind b
  replace G5 := G5.behind b
  replace N3 := N3.behind b
  replace N4 := N4.behind b
  replace N5 := N5.behind b
  replace B := below_both B b
  clear b c00 c01 c02
  have hp : 0 < v7.heap.size := Nat.lt_of_le_of_lt (Nat.zero_le _) G0.lt
  have c30 := G3.cell (i := 0) rfl
  have c31 := G3.cell (i := 1) rfl
  have c32 := G3.cell (i := 2) rfl
  go_wp2_with fail
  refine (lsame N3 (new_nil (n := 0) hp) digs0).mono ?_
  rintro e u3 ⟨rfl, b⟩
  replace hp := Nat.lt_of_lt_of_le hp b.size
  replace B := below_both B b
  replace N4 := N4.behind b
  replace G4 := G4.behind b
  replace N5 := N5.behind b
  replace G5 := G5.behind b
  clear b c30 c31 c32
  have c40 := G4.cell (i := 0) rfl
  have c41 := G4.cell (i := 1) rfl
  have c42 := G4.cell (i := 2) rfl
  go_wp2_with fail
  refine (lsame N4 (new_nil (n := 0) hp) digs0).mono ?_
  rintro e u4 ⟨rfl, b⟩
  replace hp := Nat.lt_of_lt_of_le hp b.size
  replace B := below_both B b
  replace N5 := N5.behind b
  replace G5 := G5.behind b
  clear b c40 c41 c42
  have c50 := G5.cell (i := 0) rfl
  have c51 := G5.cell (i := 1) rfl
  have c52 := G5.cell (i := 2) rfl
  go_wp2_with fail
  refine (lsame N5 (new_nil (n := 0) hp) digs0).mono ?_
  rintro e u5 ⟨rfl, b⟩
  replace hp := Nat.lt_of_lt_of_le hp b.size
  replace B := below_both B b
  clear b c50 c51 c52
  go_wp2
  go_ret
  exact ⟨rfl, B⟩
set_option maxRecDepth 100000 in
set_option maxHeartbeats 8000000 in
theorem tells_no1 {s0 s1 : Bool} {a0 a1 : Option Addr} {m0 k0 m1 k1 n0 n1 i : Nat} {x0 x1 : Int} {w : World} (hA0 : Num w (.slice a0 m0 k0) n0 i) (hA1 : Num w (.slice a1 m1 k1) n1 i) (hT : TabOk w) (h0 : Hid (mayB m0 x0 = true)) (h1 : Hid (mayB m1 x1 = false)) :
    Calls Tryd.prog 3 #[.agg #[.bool s0, .slice a0 m0 k0, .int .i64 x0], .agg #[.bool s1, .slice a1 m1 k1, .int .i64 x1]] w fun e W' => e = .returned (.bool true) ∧ Below w.heap.size w W' := by
  have hb := dbox2 w #[.bool s0, .slice a0 m0 k0, .int .i64 x0] #[.bool s1, .slice a1 m1 k1, .int .i64 x1] 24 24
  have hbs := fun (W : World) (s : Bool) (a : Option Addr) (m c : Nat) (x : Int) => dbox1 W #[.bool s, .slice a m c, .int .i64 x] 24
  go_enter Tryd.func3, Tryd.ntmps3
  go_wp2_with fail
  obtain ⟨hB, G0, G1, hsz⟩ := hb _ rfl
  generalize ((w.alloc (.cells #[.bool s0, .slice a0 m0 k0, .int .i64 x0] 24)).alloc (.cells #[.bool s1, .slice a1 m1 k1, .int .i64 x1] 24)) = W0 at hB G0 G1 hsz ⊢
  clear hb
  replace hT := hT.behind hB
  refine (lalive W0 hT).mono ?_
  rintro e w1 ⟨rfl, b1⟩
  replace hT := hT.behind b1
  replace hA0 := (hA0.behind hB).behind b1
  replace hA1 := (hA1.behind hB).behind b1
  replace G0 := G0.behind b1
  replace G1 := G1.behind b1
  have B := below_both hB b1
  clear b1 hB
  have c00 := G0.cell (i := 0) rfl
  have c01 := G0.cell (i := 1) rfl
  have c02 := G0.cell (i := 2) rfl
  have c10 := G1.cell (i := 0) rfl
  have c11 := G1.cell (i := 1) rfl
  have c12 := G1.cell (i := 2) rfl
  go_wp2_with fail
  refine (dadd hA0 hA1 hT).mono ?_
  rintro e v3 ⟨a3, m3, k3, s3, n3, x3, q3, rfl, N3, b, hR, hQ⟩
  have R3 := Lib.hid hR
  have Q3 := Lib.hid hQ
  clear hR hQ c00 c01 c02 c10 c11 c12
  obtain ⟨bx, G3, -⟩ := hbs v3 s3 a3 m3 k3 x3 _ rfl
  replace G0 := (G0.behind b).behind bx
  replace G1 := (G1.behind b).behind bx
  replace hA0 := (hA0.behind b).behind bx
  replace hA1 := (hA1.behind b).behind bx
  replace hT := (hT.behind b).behind bx
  replace N3 := N3.behind bx
  replace B := below_both (below_both B b) bx
  clear b bx
  have c00 := G0.cell (i := 0) rfl
  have c01 := G0.cell (i := 1) rfl
  have c02 := G0.cell (i := 2) rfl
  have c10 := G1.cell (i := 0) rfl
  have c11 := G1.cell (i := 1) rfl
  have c12 := G1.cell (i := 2) rfl
  go_wp2_with fail
  refine (dsub hA0 hA1 hT).mono ?_
  rintro e v4 ⟨a4, m4, k4, s4, n4, x4, q4, rfl, N4, b, hR, hQ⟩
  have R4 := Lib.hid hR
  have Q4 := Lib.hid hQ
  clear hR hQ c00 c01 c02 c10 c11 c12
  obtain ⟨bx, G4, -⟩ := hbs v4 s4 a4 m4 k4 x4 _ rfl
  replace G0 := (G0.behind b).behind bx
  replace G1 := (G1.behind b).behind bx
  replace G3 := (G3.behind b).behind bx
  replace hA0 := (hA0.behind b).behind bx
  replace hA1 := (hA1.behind b).behind bx
  replace N3 := (N3.behind b).behind bx
  replace hT := (hT.behind b).behind bx
  replace N4 := N4.behind bx
  replace B := below_both (below_both B b) bx
  clear b bx
  have c00 := G0.cell (i := 0) rfl
  have c01 := G0.cell (i := 1) rfl
  have c02 := G0.cell (i := 2) rfl
  have c10 := G1.cell (i := 0) rfl
  have c11 := G1.cell (i := 1) rfl
  have c12 := G1.cell (i := 2) rfl
  go_wp2_with fail
  refine (dmul hA0 hA1 hT).mono ?_
  rintro e v5 ⟨a5, m5, k5, s5, n5, x5, q5, rfl, N5, b, hR, hQ⟩
  have R5 := Lib.hid hR
  have Q5 := Lib.hid hQ
  clear hR hQ c00 c01 c02 c10 c11 c12
  obtain ⟨bx, G5, -⟩ := hbs v5 s5 a5 m5 k5 x5 _ rfl
  replace G0 := (G0.behind b).behind bx
  replace G1 := (G1.behind b).behind bx
  replace G3 := (G3.behind b).behind bx
  replace G4 := (G4.behind b).behind bx
  replace hA0 := (hA0.behind b).behind bx
  replace hA1 := (hA1.behind b).behind bx
  replace N3 := (N3.behind b).behind bx
  replace N4 := (N4.behind b).behind bx
  replace hT := (hT.behind b).behind bx
  replace N5 := N5.behind bx
  replace B := below_both (below_both B b) bx
  clear b bx
  have c00 := G0.cell (i := 0) rfl
  have c01 := G0.cell (i := 1) rfl
  have c02 := G0.cell (i := 2) rfl
  have c10 := G1.cell (i := 0) rfl
  have c11 := G1.cell (i := 1) rfl
  have c12 := G1.cell (i := 2) rfl
  go_wp2_with fail
  refine (dcmp hA0 hA1).mono ?_
  rintro e v6 ⟨z6, q6, rfl, b, hR, hQ⟩
  have R6 := Lib.hid hR
  have Q6 := Lib.hid hQ
  clear hR hQ c00 c01 c02 c10 c11 c12
  replace G0 := G0.behind b
  replace G1 := G1.behind b
  replace G3 := G3.behind b
  replace G4 := G4.behind b
  replace G5 := G5.behind b
  replace hA0 := hA0.behind b
  replace hA1 := hA1.behind b
  replace N3 := N3.behind b
  replace N4 := N4.behind b
  replace N5 := N5.behind b
  replace hT := hT.behind b
  replace B := below_both B b
  clear b
  have ok : (mayB m0 x0 && mayB m1 x1) = false := by rw [h0.out, h1.out]; rfl
  have eR := R3.out
  have eQ := Q3.out
  rw [ok] at eR eQ
  obtain ⟨rfl, rfl, rfl⟩ := dn_eq eR.symm
  obtain rfl : q3 = 9 := eQ.symm
  clear eR eQ R3 Q3
  have eR := R4.out
  have eQ := Q4.out
  rw [ok] at eR eQ
  obtain ⟨rfl, rfl, rfl⟩ := dn_eq eR.symm
  obtain rfl : q4 = 9 := eQ.symm
  clear eR eQ R4 Q4
  have eR := R5.out
  have eQ := Q5.out
  rw [ok] at eR eQ
  obtain ⟨rfl, rfl, rfl⟩ := dn_eq eR.symm
  obtain rfl : q5 = 9 := eQ.symm
  clear eR eQ R5 Q5
  have eR := R6.out
  have eQ := Q6.out
  rw [ok] at eR eQ
  obtain rfl : z6 = 0 := eR.symm
  obtain rfl : q6 = 9 := eQ.symm
  clear eR eQ R6 Q6 ok
  have c00 := G0.cell (i := 0) rfl
  have c01 := G0.cell (i := 1) rfl
  have c02 := G0.cell (i := 2) rfl
  go_wp2_with fail
  refine (lmay_is h0.out _).mono ?_
  rintro e v7 ⟨rfl, b⟩
  replace G0 := G0.behind b
  replace G1 := G1.behind b
  replace G3 := G3.behind b
  replace G4 := G4.behind b
  replace G5 := G5.behind b
  replace N3 := N3.behind b
  replace N4 := N4.behind b
  replace N5 := N5.behind b
  replace B := below_both B b
  clear b c00 c01 c02
  have c10 := G1.cell (i := 0) rfl
  have c11 := G1.cell (i := 1) rfl
  have c12 := G1.cell (i := 2) rfl
  go_wp2_with fail
  refine (lmay_is h1.out _).mono ?_
  rintro e v8 ⟨rfl, b⟩
  replace G0 := G0.behind b
  replace G1 := G1.behind b
  replace G3 := G3.behind b
  replace G4 := G4.behind b
  replace G5 := G5.behind b
  replace N3 := N3.behind b
  replace N4 := N4.behind b
  replace N5 := N5.behind b
  replace B := below_both B b
  clear b c10 c11 c12
  have hp : 0 < v8.heap.size := Nat.lt_of_le_of_lt (Nat.zero_le _) G0.lt
  have c30 := G3.cell (i := 0) rfl
  have c31 := G3.cell (i := 1) rfl
  have c32 := G3.cell (i := 2) rfl
  go_wp2_with fail
  refine (lsame N3 (new_nil (n := 0) hp) digs0).mono ?_
  rintro e u3 ⟨rfl, b⟩
  replace hp := Nat.lt_of_lt_of_le hp b.size
  replace B := below_both B b
  replace N4 := N4.behind b
  replace G4 := G4.behind b
  replace N5 := N5.behind b
  replace G5 := G5.behind b
  clear b c30 c31 c32
  have c40 := G4.cell (i := 0) rfl
  have c41 := G4.cell (i := 1) rfl
  have c42 := G4.cell (i := 2) rfl
  go_wp2_with fail
  refine (lsame N4 (new_nil (n := 0) hp) digs0).mono ?_
  rintro e u4 ⟨rfl, b⟩
  replace hp := Nat.lt_of_lt_of_le hp b.size
  replace B := below_both B b
  replace N5 := N5.behind b
  replace G5 := G5.behind b
  clear b c40 c41 c42
  have c50 := G5.cell (i := 0) rfl
  have c51 := G5.cell (i := 1) rfl
  have c52 := G5.cell (i := 2) rfl
  go_wp2_with fail
  refine (lsame N5 (new_nil (n := 0) hp) digs0).mono ?_
  rintro e u5 ⟨rfl, b⟩
  replace hp := Nat.lt_of_lt_of_le hp b.size
  replace B := below_both B b
  clear b c50 c51 c52
  go_wp2
  go_ret
  exact ⟨rfl, B⟩
end Go.Proofs.YthipbonhkcjcfaaDoor
