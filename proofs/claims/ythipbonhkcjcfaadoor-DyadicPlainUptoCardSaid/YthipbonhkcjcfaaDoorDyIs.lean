/- vernierlaw04's is: is an answer the number that is told? -/
import Derived.Test.YthipbonhkcjcfaaDoorDySigned
namespace Go.Proofs.YthipbonhkcjcfaaDoor
open Go.RowKit Go.Shelf
attribute [local go_sem ↓] Go.wp_at_zero Go.wp_at_succ

theorem dbox4 (w : World) (c d f g : Array Value) (t u v x : TypeId) (W : World) (h : W = (((w.alloc (.cells c t)).alloc (.cells d u)).alloc (.cells f v)).alloc (.cells g x)) : Below w.heap.size w W ∧ Cs W w.heap.size c t ∧ Cs W (w.heap.size + 1) d u ∧ Cs W (w.heap.size + 2) f v ∧ Cs W (w.heap.size + 3) g x ∧ W.heap.size = w.heap.size + 4 := by
  subst h
  obtain ⟨b1, h1, h2, h3, hz⟩ := dbox3 w c d f t u v _ rfl
  generalize ((w.alloc (.cells c t)).alloc (.cells d u)).alloc (.cells f v) = X at *
  have h4 := Cs.new X g x
  have b2 := bel_alloc X (.cells g x)
  rw [hz] at h4
  exact ⟨below_both b1 b2, h1.behind b2, h2.behind b2, h3.behind b2, h4, by rw [World.size_alloc, hz]⟩
theorem digs0 : (digs 18446744073709551616 0).length ≤ 9223372036854775806 := by rw [digs_zero]; simp
set_option maxRecDepth 100000 in
set_option maxHeartbeats 2000000 in
theorem is_no0 {s0 s1 s2 s3 : Bool} {a0 a1 a2 a3 : Option Addr} {m0 k0 m1 k1 m2 k2 m3 k3 n2 n3 p p' : Nat} {x0 x1 x2 x3 q : Int} {f : Bool} {w : World} (N2 : New p w (.slice a2 m2 k2) (digs 18446744073709551616 0)) (N3 : New p' w (.slice a3 m3 k3) (digs 18446744073709551616 n3)) (h0' : Hid (mayB m0 x0 = false)) :
    Calls Tryd.prog 19 #[.agg #[.bool s0, .slice a0 m0 k0, .int .i64 x0], .agg #[.bool s1, .slice a1 m1 k1, .int .i64 x1], .agg #[.bool false, .slice a2 m2 k2, .int .i64 0], .int .i64 9, .agg #[.bool s3, .slice a3 m3 k3, .int .i64 x3], .bool f] w fun e W' => e = .returned (.bool true) ∧ Below w.heap.size w W' := by
  have hb := dbox4 w #[.bool s0, .slice a0 m0 k0, .int .i64 x0] #[.bool s1, .slice a1 m1 k1, .int .i64 x1] #[.bool false, .slice a2 m2 k2, .int .i64 0] #[.bool s3, .slice a3 m3 k3, .int .i64 x3] 24 24 24 24
  go_enter Tryd.func19, Tryd.ntmps19
  go_wp2_with fail
  obtain ⟨B, G0, G1, G2, G3, hsz⟩ := hb _ rfl
  generalize ((((w.alloc (.cells #[.bool s0, .slice a0 m0 k0, .int .i64 x0] 24)).alloc (.cells #[.bool s1, .slice a1 m1 k1, .int .i64 x1] 24)).alloc (.cells #[.bool false, .slice a2 m2 k2, .int .i64 0] 24)).alloc (.cells #[.bool s3, .slice a3 m3 k3, .int .i64 x3] 24)) = W0 at B G0 G1 G2 G3 hsz ⊢
  clear hb
  have N2 := N2.behind B
  have N3 := N3.behind B
  have c00 := G0.cell (i := 0) rfl
  have c01 := G0.cell (i := 1) rfl
  have c02 := G0.cell (i := 2) rfl
  go_wp2_with fail
  refine (lmay_is h0'.out _).mono ?_
  rintro e v1 ⟨rfl, b⟩
  have G0 := G0.behind b
  have G1 := G1.behind b
  have G2 := G2.behind b
  have G3 := G3.behind b
  have N2 := N2.behind b
  have N3 := N3.behind b
  have B := below_both B b
  clear b c00 c01 c02
  have h0 : 0 < v1.heap.size := Nat.lt_of_le_of_lt (Nat.zero_le _) G0.lt
  have c20 := G2.cell (i := 0) rfl
  have c21 := G2.cell (i := 1) rfl
  have c22 := G2.cell (i := 2) rfl
  go_wp2_with fail
  refine (lsame N2 (new_nil (n := 0) h0) digs0).mono ?_
  rintro e v9 ⟨rfl, b⟩
  have B := below_both B b
  clear b
  go_wp2
  go_ret
  exact ⟨rfl, B⟩
set_option maxRecDepth 100000 in
set_option maxHeartbeats 2000000 in
theorem is_no1 {s0 s1 s2 s3 : Bool} {a0 a1 a2 a3 : Option Addr} {m0 k0 m1 k1 m2 k2 m3 k3 n2 n3 p p' : Nat} {x0 x1 x2 x3 q : Int} {f : Bool} {w : World} (N2 : New p w (.slice a2 m2 k2) (digs 18446744073709551616 0)) (N3 : New p' w (.slice a3 m3 k3) (digs 18446744073709551616 n3)) (h0' : Hid (mayB m0 x0 = true)) (h1' : Hid (mayB m1 x1 = false)) :
    Calls Tryd.prog 19 #[.agg #[.bool s0, .slice a0 m0 k0, .int .i64 x0], .agg #[.bool s1, .slice a1 m1 k1, .int .i64 x1], .agg #[.bool false, .slice a2 m2 k2, .int .i64 0], .int .i64 9, .agg #[.bool s3, .slice a3 m3 k3, .int .i64 x3], .bool f] w fun e W' => e = .returned (.bool true) ∧ Below w.heap.size w W' := by
  have hb := dbox4 w #[.bool s0, .slice a0 m0 k0, .int .i64 x0] #[.bool s1, .slice a1 m1 k1, .int .i64 x1] #[.bool false, .slice a2 m2 k2, .int .i64 0] #[.bool s3, .slice a3 m3 k3, .int .i64 x3] 24 24 24 24
  go_enter Tryd.func19, Tryd.ntmps19
  go_wp2_with fail
  obtain ⟨B, G0, G1, G2, G3, hsz⟩ := hb _ rfl
  generalize ((((w.alloc (.cells #[.bool s0, .slice a0 m0 k0, .int .i64 x0] 24)).alloc (.cells #[.bool s1, .slice a1 m1 k1, .int .i64 x1] 24)).alloc (.cells #[.bool false, .slice a2 m2 k2, .int .i64 0] 24)).alloc (.cells #[.bool s3, .slice a3 m3 k3, .int .i64 x3] 24)) = W0 at B G0 G1 G2 G3 hsz ⊢
  clear hb
  have N2 := N2.behind B
  have N3 := N3.behind B
  have c00 := G0.cell (i := 0) rfl
  have c01 := G0.cell (i := 1) rfl
  have c02 := G0.cell (i := 2) rfl
  go_wp2_with fail
  refine (lmay_is h0'.out _).mono ?_
  rintro e v1 ⟨rfl, b⟩
  have G0 := G0.behind b
  have G1 := G1.behind b
  have G2 := G2.behind b
  have G3 := G3.behind b
  have N2 := N2.behind b
  have N3 := N3.behind b
  have B := below_both B b
  clear b c00 c01 c02
  have c10 := G1.cell (i := 0) rfl
  have c11 := G1.cell (i := 1) rfl
  have c12 := G1.cell (i := 2) rfl
  go_wp2_with fail
  refine (lmay_is h1'.out _).mono ?_
  rintro e v2 ⟨rfl, b⟩
  have G0 := G0.behind b
  have G1 := G1.behind b
  have G2 := G2.behind b
  have G3 := G3.behind b
  have N2 := N2.behind b
  have N3 := N3.behind b
  have B := below_both B b
  clear b c10 c11 c12
  have h0 : 0 < v2.heap.size := Nat.lt_of_le_of_lt (Nat.zero_le _) G0.lt
  have c20 := G2.cell (i := 0) rfl
  have c21 := G2.cell (i := 1) rfl
  have c22 := G2.cell (i := 2) rfl
  go_wp2_with fail
  refine (lsame N2 (new_nil (n := 0) h0) digs0).mono ?_
  rintro e v9 ⟨rfl, b⟩
  have B := below_both B b
  clear b
  go_wp2
  go_ret
  exact ⟨rfl, B⟩
set_option maxRecDepth 100000 in
set_option maxHeartbeats 2000000 in
theorem is_far {s0 s1 s2 s3 : Bool} {a0 a1 a2 a3 : Option Addr} {m0 k0 m1 k1 m2 k2 m3 k3 n2 n3 p p' : Nat} {x0 x1 x2 x3 q : Int} {f : Bool} {w : World} (N2 : New p w (.slice a2 m2 k2) (digs 18446744073709551616 0)) (N3 : New p' w (.slice a3 m3 k3) (digs 18446744073709551616 n3)) (h0' : Hid (mayB m0 x0 = true)) (h1' : Hid (mayB m1 x1 = true)) :
    Calls Tryd.prog 19 #[.agg #[.bool s0, .slice a0 m0 k0, .int .i64 x0], .agg #[.bool s1, .slice a1 m1 k1, .int .i64 x1], .agg #[.bool false, .slice a2 m2 k2, .int .i64 0], .int .i64 4, .agg #[.bool s3, .slice a3 m3 k3, .int .i64 x3], .bool false] w fun e W' => e = .returned (.bool true) ∧ Below w.heap.size w W' := by
  have hb := dbox4 w #[.bool s0, .slice a0 m0 k0, .int .i64 x0] #[.bool s1, .slice a1 m1 k1, .int .i64 x1] #[.bool false, .slice a2 m2 k2, .int .i64 0] #[.bool s3, .slice a3 m3 k3, .int .i64 x3] 24 24 24 24
  go_enter Tryd.func19, Tryd.ntmps19
  go_wp2_with fail
  obtain ⟨B, G0, G1, G2, G3, hsz⟩ := hb _ rfl
  generalize ((((w.alloc (.cells #[.bool s0, .slice a0 m0 k0, .int .i64 x0] 24)).alloc (.cells #[.bool s1, .slice a1 m1 k1, .int .i64 x1] 24)).alloc (.cells #[.bool false, .slice a2 m2 k2, .int .i64 0] 24)).alloc (.cells #[.bool s3, .slice a3 m3 k3, .int .i64 x3] 24)) = W0 at B G0 G1 G2 G3 hsz ⊢
  clear hb
  have N2 := N2.behind B
  have N3 := N3.behind B
  have c00 := G0.cell (i := 0) rfl
  have c01 := G0.cell (i := 1) rfl
  have c02 := G0.cell (i := 2) rfl
  go_wp2_with fail
  refine (lmay_is h0'.out _).mono ?_
  rintro e v1 ⟨rfl, b⟩
  have G0 := G0.behind b
  have G1 := G1.behind b
  have G2 := G2.behind b
  have G3 := G3.behind b
  have N2 := N2.behind b
  have N3 := N3.behind b
  have B := below_both B b
  clear b c00 c01 c02
  have c10 := G1.cell (i := 0) rfl
  have c11 := G1.cell (i := 1) rfl
  have c12 := G1.cell (i := 2) rfl
  go_wp2_with fail
  refine (lmay_is h1'.out _).mono ?_
  rintro e v2 ⟨rfl, b⟩
  have G0 := G0.behind b
  have G1 := G1.behind b
  have G2 := G2.behind b
  have G3 := G3.behind b
  have N2 := N2.behind b
  have N3 := N3.behind b
  have B := below_both B b
  clear b c10 c11 c12
  have h0 : 0 < v2.heap.size := Nat.lt_of_le_of_lt (Nat.zero_le _) G0.lt
  have c20 := G2.cell (i := 0) rfl
  have c21 := G2.cell (i := 1) rfl
  have c22 := G2.cell (i := 2) rfl
  go_wp2_with fail
  refine (lsame N2 (new_nil (n := 0) h0) digs0).mono ?_
  rintro e v9 ⟨rfl, b⟩
  have B := below_both B b
  clear b
  go_wp2
  go_ret
  exact ⟨rfl, B⟩
set_option maxRecDepth 100000 in
set_option maxHeartbeats 2000000 in
theorem is_it {s0 s1 s2 s3 : Bool} {a0 a1 a2 a3 : Option Addr} {m0 k0 m1 k1 m2 k2 m3 k3 n2 n3 p p' : Nat} {x0 x1 x2 x3 q : Int} {f : Bool} {w : World} (N2 : New p w (.slice a2 m2 k2) (digs 18446744073709551616 n2)) (N3 : New p' w (.slice a3 m3 k3) (digs 18446744073709551616 n2)) (HL : Hid ((digs 18446744073709551616 n2).length ≤ 9223372036854775806)) (h0' : Hid (mayB m0 x0 = true)) (h1' : Hid (mayB m1 x1 = true)) :
    Calls Tryd.prog 19 #[.agg #[.bool s0, .slice a0 m0 k0, .int .i64 x0], .agg #[.bool s1, .slice a1 m1 k1, .int .i64 x1], .agg #[.bool s2, .slice a2 m2 k2, .int .i64 x2], .int .i64 0, .agg #[.bool s2, .slice a3 m3 k3, .int .i64 x2], .bool true] w fun e W' => e = .returned (.bool true) ∧ Below w.heap.size w W' := by
  have hb := dbox4 w #[.bool s0, .slice a0 m0 k0, .int .i64 x0] #[.bool s1, .slice a1 m1 k1, .int .i64 x1] #[.bool s2, .slice a2 m2 k2, .int .i64 x2] #[.bool s2, .slice a3 m3 k3, .int .i64 x2] 24 24 24 24
  go_enter Tryd.func19, Tryd.ntmps19
  go_wp2_with fail
  obtain ⟨B, G0, G1, G2, G3, hsz⟩ := hb _ rfl
  generalize ((((w.alloc (.cells #[.bool s0, .slice a0 m0 k0, .int .i64 x0] 24)).alloc (.cells #[.bool s1, .slice a1 m1 k1, .int .i64 x1] 24)).alloc (.cells #[.bool s2, .slice a2 m2 k2, .int .i64 x2] 24)).alloc (.cells #[.bool s2, .slice a3 m3 k3, .int .i64 x2] 24)) = W0 at B G0 G1 G2 G3 hsz ⊢
  clear hb
  have N2 := N2.behind B
  have N3 := N3.behind B
  have c00 := G0.cell (i := 0) rfl
  have c01 := G0.cell (i := 1) rfl
  have c02 := G0.cell (i := 2) rfl
  go_wp2_with fail
  refine (lmay_is h0'.out _).mono ?_
  rintro e v1 ⟨rfl, b⟩
  have G0 := G0.behind b
  have G1 := G1.behind b
  have G2 := G2.behind b
  have G3 := G3.behind b
  have N2 := N2.behind b
  have N3 := N3.behind b
  have B := below_both B b
  clear b c00 c01 c02
  have c10 := G1.cell (i := 0) rfl
  have c11 := G1.cell (i := 1) rfl
  have c12 := G1.cell (i := 2) rfl
  go_wp2_with fail
  refine (lmay_is h1'.out _).mono ?_
  rintro e v2 ⟨rfl, b⟩
  have G0 := G0.behind b
  have G1 := G1.behind b
  have G2 := G2.behind b
  have G3 := G3.behind b
  have N2 := N2.behind b
  have N3 := N3.behind b
  have B := below_both B b
  clear b c10 c11 c12
  have c20 := G2.cell (i := 0) rfl
  have c21 := G2.cell (i := 1) rfl
  have c22 := G2.cell (i := 2) rfl
  have c30 := G3.cell (i := 0) rfl
  have c31 := G3.cell (i := 1) rfl
  have c32 := G3.cell (i := 2) rfl
  go_wp2_with fail
  refine (lsame N2 N3 HL.out).mono ?_
  rintro e v9 ⟨rfl, b⟩
  have B := below_both B b
  clear b
  go_wp2
  go_ret
  exact ⟨rfl, B⟩
theorem lis {s0 s1 s2 s3 : Bool} {a0 a1 a2 a3 : Option Addr} {m0 k0 m1 k1 m2 k2 m3 k3 n2 n3 p p' : Nat} {x0 x1 x2 x3 q : Int} {f : Bool} {w : World} {r : Dn} (N2 : New p w (.slice a2 m2 k2) (digs 18446744073709551616 n2)) (N3 : New p' w (.slice a3 m3 k3) (digs 18446744073709551616 n3))
    (hR : resD (mayB m0 x0 && mayB m1 x1) r = ⟨s2, n2, x2⟩) (hQ : resE (mayB m0 x0 && mayB m1 x1) r = q) (h : (mayB m0 x0 && mayB m1 x1) = true → r = ⟨s3, n3, x3⟩ ∧ f = fits r) :
    Calls Tryd.prog 19 #[.agg #[.bool s0, .slice a0 m0 k0, .int .i64 x0], .agg #[.bool s1, .slice a1 m1 k1, .int .i64 x1], .agg #[.bool s2, .slice a2 m2 k2, .int .i64 x2], .int .i64 q, .agg #[.bool s3, .slice a3 m3 k3, .int .i64 x3], .bool f] w fun e W' => e = .returned (.bool true) ∧ Below w.heap.size w W' := by
  have hl := res_len hR
  cases h0 : mayB m0 x0
  · rw [h0] at hR hQ
    obtain ⟨rfl, rfl, rfl⟩ := dn_eq hR.symm
    obtain rfl : q = 9 := hQ.symm
    exact is_no0 (s2 := false) (n2 := 0) (x2 := 0) (q := 0) N2 N3 (Lib.hid h0)
  · cases h1 : mayB m1 x1
    · rw [h0, h1] at hR hQ
      obtain ⟨rfl, rfl, rfl⟩ := dn_eq hR.symm
      obtain rfl : q = 9 := hQ.symm
      exact is_no1 (s2 := false) (n2 := 0) (x2 := 0) (q := 0) N2 N3 (Lib.hid h0) (Lib.hid h1)
    · rw [h0, h1] at hR hQ h
      obtain ⟨h2, h3⟩ := h rfl
      subst h3
      cases hf : fits r
      · rw [Bool.and_self, resD, if_pos rfl, outD, if_neg (by simp [hf])] at hR
        rw [Bool.and_self, resE, if_pos rfl, outE, if_neg (by simp [hf])] at hQ
        obtain ⟨rfl, rfl, rfl⟩ := dn_eq hR.symm
        subst hQ
        exact is_far (s2 := false) (n2 := 0) (x2 := 0) (q := 0) (f := false) N2 N3 (Lib.hid h0) (Lib.hid h1)
      · rw [Bool.and_self, resD, if_pos rfl, outD, if_pos hf, h2] at hR
        rw [Bool.and_self, resE, if_pos rfl, outE, if_pos hf] at hQ
        obtain ⟨rfl, rfl, rfl⟩ := dn_eq hR
        subst hQ
        exact is_it (s3 := false) (n3 := 0) (x3 := 0) (q := 0) (f := false) N2 N3 (Lib.hid (by omega)) (Lib.hid h0) (Lib.hid h1)
end Go.Proofs.YthipbonhkcjcfaaDoor
