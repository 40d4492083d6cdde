/- vernierlaw04.DyadicTells: true, where both numbers may be. -/
import Derived.Test.YthipbonhkcjcfaaDoorDyTellsNo
namespace Go.Proofs.YthipbonhkcjcfaaDoor
open Go.RowKit Go.Shelf
attribute [local go_sem ↓] Go.wp_at_zero Go.wp_at_succ

theorem New.over {n g : Nat} {W : World} {v : Value} {xs : List Nat} (h : New n W v xs) (G : Cs W g #[.bool false, .slice none 0 0, .int .i64 0] 24) (s : Bool) (a : Option Addr) (m c : Nat) (x : Int) :
    New n (((W.setCell ⟨g, 0, none⟩ (.bool s)).setCell ⟨g, 1, none⟩ (.slice a m c)).setCell ⟨g, 2, none⟩ (.int .i64 x)) v xs := by
  obtain ⟨S, h1, h2, h3⟩ := h
  refine ⟨S, ?_, by simpa [World.setCell] using h2, h3⟩
  rcases h1 with h1 | ⟨off, cap, e, hl, hc⟩
  · exact .inl h1
  · by_cases h0 : xs.length = 0
    · exact .inr ⟨off, cap, e, hl, fun j hj => by omega⟩
    · have hS : S ≠ g := by
        rintro rfl
        have h4 := hc 0 (by omega)
        rw [cell_of_row W S (off + 0) _ _ (0, 0) G] at h4
        have h5 : off + 0 < 3 := by
          rcases Nat.lt_or_ge (off + 0) 3 with h | h
          · exact h
          · rw [Array.getElem?_eq_none (by simpa using h)] at h4; cases h4
        generalize off + 0 = z at h4 h5
        have : z = 0 ∨ z = 1 ∨ z = 2 := by omega
        rcases this with rfl | rfl | rfl <;> (simp at h4)
      exact RdAt.kept (.inr ⟨off, cap, e, hl, hc⟩) (by
        rw [Below.heap_setCell _ _ _ _ hS, Below.heap_setCell _ _ _ _ hS, Below.heap_setCell _ _ _ _ hS])
theorem RN.wide {w : World} {v : Value} {N k k' : Nat} (h : RN w v N k) (hk : k ≤ k') : RN w v N k' := ⟨h.1, Nat.lt_of_lt_of_le h.2 (Nat.pow_le_pow_right (by decide) hk)⟩
set_option maxRecDepth 100000 in
set_option maxHeartbeats 8000000 in
theorem tells_yes {s0 s1 : Bool} {a0 a1 : Option Addr} {m0 k0 m1 k1 n0 n1 i : Nat} {x0 x1 : Int} {w : World} (hA0 : Num w (.slice a0 m0 k0) n0 i) (hA1 : Num w (.slice a1 m1 k1) n1 i) (hT : TabOk w) (hm : Hid ((mayB m0 x0 && mayB m1 x1) = true)) :
    Calls Tryd.prog 3 #[.agg #[.bool s0, .slice a0 m0 k0, .int .i64 x0], .agg #[.bool s1, .slice a1 m1 k1, .int .i64 x1]] w fun e W' => e = .returned (.bool true) ∧ Below w.heap.size w W' := by
  have hm' := hm.out
  rw [Bool.and_eq_true, mayB_iff, mayB_iff] at hm'
  have h0 := Lib.hid (Bool.and_eq_true_iff.1 hm.out).1
  have h1 := Lib.hid (Bool.and_eq_true_iff.1 hm.out).2
  obtain ⟨⟨e1, e2, e3⟩, e4, e5, e6⟩ := hm'
  replace hA0 := num_may hA0 e3
  replace hA1 := num_may hA1 e6
  obtain ⟨y, hy⟩ : ∃ y, min x0 x1 = y := ⟨_, rfl⟩
  have hyb : y ≤ x0 ∧ y ≤ x1 ∧ -16384 ≤ y ∧ y ≤ 16384 := by omega
  obtain ⟨y1, y2, y3, y4⟩ := hyb
  obtain ⟨g0, hg0⟩ : ∃ g : Nat, x0 - y = g := ⟨(x0 - y).toNat, by omega⟩
  obtain ⟨g1, hg1⟩ : ∃ g : Nat, x1 - y = g := ⟨(x1 - y).toNat, by omega⟩
  have hgb : g0 ≤ 32768 ∧ g1 ≤ 32768 := by omega
  obtain ⟨hgb0, hgb1⟩ := hgb
  have hw0 : IntKind.i64.wrap (x0 - y) = (g0 : Int) := by rw [hg0]; exact IntWalk.i64_in _ (by omega)
  have hw1 : IntKind.i64.wrap (x1 - y) = (g1 : Int) := by rw [hg1]; exact IntWalk.i64_in _ (by omega)
  have hv0 : IntKind.i64.wrap ((g0 : Nat) : Int) = (g0 : Int) := IntWalk.i64_in _ (by omega)
  have hv1 : IntKind.i64.wrap ((g1 : Nat) : Int) = (g1 : Int) := IntWalk.i64_in _ (by omega)
  have hwE : IntKind.i64.wrap (x0 + x1) = x0 + x1 := IntWalk.i64_in _ (by omega)
  have HLV := Lib.hid (show lev s0 n0 x0 (min x0 x1) = wn s0 (n0 * 2 ^ g0) ∧ lev s1 n1 x1 (min x0 x1) = wn s1 (n1 * 2 ^ g1) by
    unfold lev; rw [hy, hg0, hg1]; exact ⟨rfl, rfl⟩)
  have hb := dbox2 w #[.bool s0, .slice a0 m0 k0, .int .i64 x0] #[.bool s1, .slice a1 m1 k1, .int .i64 x1] 24 24
  have hbs := fun (W : World) (s : Bool) (a : Option Addr) (m c : Nat) (x : Int) => dbox1 W #[.bool s, .slice a m c, .int .i64 x] 24
  go_enter Tryd.func3, Tryd.ntmps3
  go_wp2_with fail
  obtain ⟨hB, G0, G1, hsz⟩ := hb _ rfl
  generalize ((w.alloc (.cells #[.bool s0, .slice a0 m0 k0, .int .i64 x0] 24)).alloc (.cells #[.bool s1, .slice a1 m1 k1, .int .i64 x1] 24)) = W0 at hB G0 G1 hsz ⊢
  clear hb
  replace hT := hT.behind hB
  refine (lalive W0 hT).mono ?_
  rintro e w1 ⟨rfl, b1⟩
  replace hT := hT.behind b1
  replace hA0 := (hA0.behind hB).behind b1
  replace hA1 := (hA1.behind hB).behind b1
  replace G0 := G0.behind b1
  replace G1 := G1.behind b1
  have B := below_both hB b1
  clear b1 hB
  have c00 := G0.cell (i := 0) rfl
  have c01 := G0.cell (i := 1) rfl
  have c02 := G0.cell (i := 2) rfl
  have c10 := G1.cell (i := 0) rfl
  have c11 := G1.cell (i := 1) rfl
  have c12 := G1.cell (i := 2) rfl
  go_wp2_with fail
  refine (dadd hA0 hA1 hT).mono ?_
  rintro e v3 ⟨a3, m3, k3, s3, n3, x3, q3, rfl, N3, b, hR, hQ⟩
  have R3 := Lib.hid hR
  have Q3 := Lib.hid hQ
  clear hR hQ c00 c01 c02 c10 c11 c12
  obtain ⟨bx, G3, -⟩ := hbs v3 s3 a3 m3 k3 x3 _ rfl
  replace G0 := (G0.behind b).behind bx
  replace G1 := (G1.behind b).behind bx
  replace hA0 := (hA0.behind b).behind bx
  replace hA1 := (hA1.behind b).behind bx
  replace hT := (hT.behind b).behind bx
  replace N3 := N3.behind bx
  replace B := below_both (below_both B b) bx
  clear b bx
  have c00 := G0.cell (i := 0) rfl
  have c01 := G0.cell (i := 1) rfl
  have c02 := G0.cell (i := 2) rfl
  have c10 := G1.cell (i := 0) rfl
  have c11 := G1.cell (i := 1) rfl
  have c12 := G1.cell (i := 2) rfl
  go_wp2_with fail
  refine (dsub hA0 hA1 hT).mono ?_
  rintro e v4 ⟨a4, m4, k4, s4, n4, x4, q4, rfl, N4, b, hR, hQ⟩
  have R4 := Lib.hid hR
  have Q4 := Lib.hid hQ
  clear hR hQ c00 c01 c02 c10 c11 c12
  obtain ⟨bx, G4, -⟩ := hbs v4 s4 a4 m4 k4 x4 _ rfl
  replace G0 := (G0.behind b).behind bx
  replace G1 := (G1.behind b).behind bx
  replace G3 := (G3.behind b).behind bx
  replace hA0 := (hA0.behind b).behind bx
  replace hA1 := (hA1.behind b).behind bx
  replace N3 := (N3.behind b).behind bx
  replace hT := (hT.behind b).behind bx
  replace N4 := N4.behind bx
  replace B := below_both (below_both B b) bx
  clear b bx
  have c00 := G0.cell (i := 0) rfl
  have c01 := G0.cell (i := 1) rfl
  have c02 := G0.cell (i := 2) rfl
  have c10 := G1.cell (i := 0) rfl
  have c11 := G1.cell (i := 1) rfl
  have c12 := G1.cell (i := 2) rfl
  go_wp2_with fail
  refine (dmul hA0 hA1 hT).mono ?_
  rintro e v5 ⟨a5, m5, k5, s5, n5, x5, q5, rfl, N5, b, hR, hQ⟩
  have R5 := Lib.hid hR
  have Q5 := Lib.hid hQ
  clear hR hQ c00 c01 c02 c10 c11 c12
  obtain ⟨bx, G5, -⟩ := hbs v5 s5 a5 m5 k5 x5 _ rfl
  replace G0 := (G0.behind b).behind bx
  replace G1 := (G1.behind b).behind bx
  replace G3 := (G3.behind b).behind bx
  replace G4 := (G4.behind b).behind bx
  replace hA0 := (hA0.behind b).behind bx
  replace hA1 := (hA1.behind b).behind bx
  replace N3 := (N3.behind b).behind bx
  replace N4 := (N4.behind b).behind bx
  replace hT := (hT.behind b).behind bx
  replace N5 := N5.behind bx
  replace B := below_both (below_both B b) bx
  clear b bx
  have c00 := G0.cell (i := 0) rfl
  have c01 := G0.cell (i := 1) rfl
  have c02 := G0.cell (i := 2) rfl
  have c10 := G1.cell (i := 0) rfl
  have c11 := G1.cell (i := 1) rfl
  have c12 := G1.cell (i := 2) rfl
  go_wp2_with fail
  refine (dcmp hA0 hA1).mono ?_
  rintro e v6 ⟨z6, q6, rfl, b, hR, hQ⟩
  have R6 := Lib.hid hR
  have Q6 := Lib.hid hQ
  clear hR hQ c00 c01 c02 c10 c11 c12
  replace G0 := G0.behind b
  replace G1 := G1.behind b
  replace G3 := G3.behind b
  replace G4 := G4.behind b
  replace G5 := G5.behind b
  replace hA0 := hA0.behind b
  replace hA1 := hA1.behind b
  replace N3 := N3.behind b
  replace N4 := N4.behind b
  replace N5 := N5.behind b
  replace hT := hT.behind b
  replace B := below_both B b
  clear b
  have c00 := G0.cell (i := 0) rfl
  have c01 := G0.cell (i := 1) rfl
  have c02 := G0.cell (i := 2) rfl
  go_wp2_with fail
  refine (lmay_is h0.out _).mono ?_
  rintro e v7 ⟨rfl, b⟩
  replace G0 := G0.behind b
  replace G1 := G1.behind b
  replace G3 := G3.behind b
  replace G4 := G4.behind b
  replace G5 := G5.behind b
  replace N3 := N3.behind b
  replace N4 := N4.behind b
  replace N5 := N5.behind b
  replace hA0 := hA0.behind b
  replace hA1 := hA1.behind b
  replace hT := hT.behind b
  replace B := below_both B b
  clear b c00 c01 c02
  have c10 := G1.cell (i := 0) rfl
  have c11 := G1.cell (i := 1) rfl
  have c12 := G1.cell (i := 2) rfl
  go_wp2_with fail
  refine (lmay_is h1.out _).mono ?_
  rintro e v8 ⟨rfl, b⟩
  replace G0 := G0.behind b
  replace G1 := G1.behind b
  replace G3 := G3.behind b
  replace G4 := G4.behind b
  replace G5 := G5.behind b
  replace N3 := N3.behind b
  replace N4 := N4.behind b
  replace N5 := N5.behind b
  replace hA0 := hA0.behind b
  replace hA1 := hA1.behind b
  replace hT := hT.behind b
  replace B := below_both B b
  clear b c10 c11 c12
  have c00 := G0.cell (i := 0) rfl
  have c01 := G0.cell (i := 1) rfl
  have c02 := G0.cell (i := 2) rfl
  have c10 := G1.cell (i := 0) rfl
  have c11 := G1.cell (i := 1) rfl
  have c12 := G1.cell (i := 2) rfl
  go_wp2_with fail
  clear c00 c01 c02 c10 c11 c12
  have bd := (Below.refl v8.heap.size v8).drew
  replace hA0 := hA0.behind bd
  replace hA1 := hA1.behind bd
  replace hT := hT.behind bd
  replace G0 := G0.behind bd
  replace G1 := G1.behind bd
  replace G3 := G3.behind bd
  replace G4 := G4.behind bd
  replace G5 := G5.behind bd
  replace N3 := N3.behind bd
  replace N4 := N4.behind bd
  replace N5 := N5.behind bd
  replace B := below_both B bd
  clear bd
  have c00 := G0.cell (i := 0) rfl
  have c01 := G0.cell (i := 1) rfl
  have c02 := G0.cell (i := 2) rfl
  have c10 := G1.cell (i := 0) rfl
  have c11 := G1.cell (i := 1) rfl
  have c12 := G1.cell (i := 2) rfl
  go_region_held3 (fun w' => w'.cell? ⟨w.heap.size, 0, none⟩ = some (.bool s0) ∧ w'.cell? ⟨w.heap.size, 1, none⟩ = some (.slice a0 m0 k0) ∧ w'.cell? ⟨w.heap.size, 2, none⟩ = some (.int .i64 x0) ∧ w'.cell? ⟨w.heap.size + 1, 0, none⟩ = some (.bool s1) ∧ w'.cell? ⟨w.heap.size + 1, 1, none⟩ = some (.slice a1 m1 k1) ∧ w'.cell? ⟨w.heap.size + 1, 2, none⟩ = some (.int .i64 x1)) (first | exact ⟨G0.cell rfl, G0.cell rfl, G0.cell rfl, G1.cell rfl, G1.cell rfl, G1.cell rfl⟩ | (refine ⟨?_, ?_, ?_, ?_, ?_, ?_⟩ <;> go_keep))
    (first
      | (have _ := rP; go_at_call 14; (with_reducible refine (rshl_num rP (by omega) (m := g1) (by omega)).mono ?_); rintro e v12 ⟨uY, rfl, rY, b⟩; replace hA0 := hA0.behind b; replace hA1 := hA1.behind b; replace hT := hT.behind b; replace rX := rX.behind b; replace G0 := G0.behind b; replace G1 := G1.behind b; replace G3 := G3.behind b; replace G4 := G4.behind b; replace G5 := G5.behind b; replace N3 := N3.behind b; replace N4 := N4.behind b; replace N5 := N5.behind b; replace B := below_both B b; clear b)
      | (have _ := rX; go_at_call 15; (with_reducible refine (of_num hA1 (by omega)).mono ?_); rintro e v11 ⟨uP, rfl, rP, b⟩; replace hA0 := hA0.behind b; replace hA1 := hA1.behind b; replace hT := hT.behind b; replace rX := rX.behind b; replace G0 := G0.behind b; replace G1 := G1.behind b; replace G3 := G3.behind b; replace G4 := G4.behind b; replace G5 := G5.behind b; replace N3 := N3.behind b; replace N4 := N4.behind b; replace N5 := N5.behind b; replace B := below_both B b; clear b)
      | (have _ := rO; go_at_call 14; (with_reducible refine (rshl_num rO (by omega) (m := g0) (by omega)).mono ?_); rintro e v10 ⟨uX, rfl, rX, b⟩; replace hA0 := hA0.behind b; replace hA1 := hA1.behind b; replace hT := hT.behind b; replace G0 := G0.behind b; replace G1 := G1.behind b; replace G3 := G3.behind b; replace G4 := G4.behind b; replace G5 := G5.behind b; replace N3 := N3.behind b; replace N4 := N4.behind b; replace N5 := N5.behind b; replace B := below_both B b; clear b)
      | (go_at_call 15; (with_reducible refine (of_num hA0 (by omega)).mono ?_); rintro e v9 ⟨uO, rfl, rO, b⟩; replace hA0 := hA0.behind b; replace hA1 := hA1.behind b; replace hT := hT.behind b; replace G0 := G0.behind b; replace G1 := G1.behind b; replace G3 := G3.behind b; replace G4 := G4.behind b; replace G5 := G5.behind b; replace N3 := N3.behind b; replace N4 := N4.behind b; replace N5 := N5.behind b; replace B := below_both B b; clear b))
  replace rX := rX.wide (k' := 8192) (by omega)
  replace rY := rY.wide (k' := 8192) (by omega)
  clear rO rP
  obtain ⟨xa, xc, rfl, -⟩ := rX.slice
  obtain ⟨ya, yc, rfl, -⟩ := rY.slice
  generalize (digs 65536 (n0 * 2 ^ g0)).length = lX at rX ⊢
  generalize (digs 65536 (n1 * 2 ^ g1)).length = lY at rY ⊢
  clear c00 c01 c02 c10 c11 c12
  by_cases hX : 3000 < lX
  · have hd : decide (3000 < lX) = true := decide_eq_true hX
    have hd2 : decide ((3000 : Int) < (lX : Int)) = true := decide_eq_true (by omega)
    go_wp2
    go_ret
    exact ⟨rfl, B⟩
  have hdX : decide (3000 < lX) = false := decide_eq_false hX
  have hdX2 : decide ((3000 : Int) < (lX : Int)) = false := decide_eq_false (by omega)
  by_cases hY : 3000 < lY
  · have hd : decide (3000 < lY) = true := decide_eq_true hY
    have hd2 : decide ((3000 : Int) < (lY : Int)) = true := decide_eq_true (by omega)
    go_wp2
    go_ret
    exact ⟨rfl, B⟩
  have hdY : decide (3000 < lY) = false := decide_eq_false hY
  have hdY2 : decide ((3000 : Int) < (lY : Int)) = false := decide_eq_false (by omega)
  clear hX hY
  have c00 := G0.cell (i := 0) rfl
  have c01 := G0.cell (i := 1) rfl
  have c02 := G0.cell (i := 2) rfl
  have c10 := G1.cell (i := 0) rfl
  have c11 := G1.cell (i := 1) rfl
  have c12 := G1.cell (i := 2) rfl
  go_wp2_with fail
  refine (lsigned (o := s1) True (fun _ => ⟨by omega, by omega⟩) rX rY (by omega) (by omega) (by omega)).mono ?_
  rintro e v13 ⟨a13, m13, k13, s13, n13, x13, q13, rfl, N13, b, hle, hR⟩
  have R13 := Lib.hid (hR trivial)
  clear hR hle c00 c01 c02 c10 c11 c12
  obtain ⟨bx, G13, -⟩ := hbs v13 s13 a13 m13 k13 x13 _ rfl
  replace G0 := (G0.behind b).behind bx
  replace G1 := (G1.behind b).behind bx
  replace G3 := (G3.behind b).behind bx
  replace G4 := (G4.behind b).behind bx
  replace G5 := (G5.behind b).behind bx
  replace N3 := (N3.behind b).behind bx
  replace N4 := (N4.behind b).behind bx
  replace N5 := (N5.behind b).behind bx
  replace hA0 := (hA0.behind b).behind bx
  replace hA1 := (hA1.behind b).behind bx
  replace hT := (hT.behind b).behind bx
  replace rX := (rX.behind b).behind bx
  replace rY := (rY.behind b).behind bx
  replace N13 := N13.behind bx
  replace B := below_both (below_both B b) bx
  clear b bx
  have c00 := G0.cell (i := 0) rfl
  have c01 := G0.cell (i := 1) rfl
  have c02 := G0.cell (i := 2) rfl
  have c10 := G1.cell (i := 0) rfl
  have c11 := G1.cell (i := 1) rfl
  have c12 := G1.cell (i := 2) rfl
  go_wp2_with fail
  refine (lsigned (o := !s1) True (fun _ => ⟨by omega, by omega⟩) rX rY (by omega) (by omega) (by omega)).mono ?_
  rintro e v14 ⟨a14, m14, k14, s14, n14, x14, q14, rfl, N14, b, hle, hR⟩
  have R14 := Lib.hid (hR trivial)
  clear hR hle c00 c01 c02 c10 c11 c12
  obtain ⟨bx, G14, -⟩ := hbs v14 s14 a14 m14 k14 x14 _ rfl
  replace G0 := (G0.behind b).behind bx
  replace G1 := (G1.behind b).behind bx
  replace G3 := (G3.behind b).behind bx
  replace G4 := (G4.behind b).behind bx
  replace G5 := (G5.behind b).behind bx
  replace G13 := (G13.behind b).behind bx
  replace N3 := (N3.behind b).behind bx
  replace N4 := (N4.behind b).behind bx
  replace N5 := (N5.behind b).behind bx
  replace N13 := (N13.behind b).behind bx
  replace hA0 := (hA0.behind b).behind bx
  replace hA1 := (hA1.behind b).behind bx
  replace hT := (hT.behind b).behind bx
  replace rX := (rX.behind b).behind bx
  replace rY := (rY.behind b).behind bx
  replace N14 := N14.behind bx
  replace B := below_both (below_both B b) bx
  clear b bx
  have c00 := G0.cell (i := 0) rfl
  have c01 := G0.cell (i := 1) rfl
  have c02 := G0.cell (i := 2) rfl
  have c10 := G1.cell (i := 0) rfl
  have c11 := G1.cell (i := 1) rfl
  have c12 := G1.cell (i := 2) rfl
  go_wp2_with fail
  clear c00 c01 c02 c10 c11 c12
  generalize (v14.alloc (.cells #[.bool s14, .slice a14 m14 k14, .int .i64 x14] 24)) = Wb at G0 G1 G3 G4 G5 G13 G14 N3 N4 N5 N13 N14 hA0 hA1 hT rX rY B ⊢
  generalize v14.heap.size = g14 at G14 ⊢
  have HO : (m14 = 0 ∧ z6 = 0) ∨ (0 < m14 ∧ s14 = false ∧ z6 = 1) ∨ (0 < m14 ∧ s14 = true ∧ z6 = -1) := by
    have e6 : cmpZ (wn s0 (n0 * 2 ^ g0)) (wn s1 (n1 * 2 ^ g1)) = z6 := by
      have := R6.out
      rw [hm.out, if_pos rfl, cmpD, HLV.out.1, HLV.out.2] at this
      exact this
    have e14 := R14.out.1
    have em := res_slice N14
    rw [wn_not] at e14
    generalize wn s0 (n0 * 2 ^ g0) = zx at e6 e14
    generalize wn s1 (n1 * 2 ^ g1) = zy at e6 e14
    by_cases hz : (zx + -zy).natAbs = 0
    · rw [hz, tld_zero] at e14
      obtain ⟨-, rfl, -⟩ := dn_eq e14.symm
      refine .inl ⟨by rw [em, digs_zero]; rfl, ?_⟩
      rw [← e6, show zx = zy by omega]; simp [cmpZ]
    · have ho := tz_odd_part hz
      rw [tld_pos _ hz] at e14
      obtain ⟨hs, hn, -⟩ := dn_eq e14
      dsimp only at hs hn
      have hm0 : 0 < m14 := by
        rw [em, ← hn]
        rw [digs_pos (by decide) (by omega)]
        simp
      unfold cmpZ at e6
      by_cases hlt : zx < zy
      · exact .inr (.inr ⟨hm0, by rw [← hs]; simp; omega, by rw [← e6, if_pos hlt]⟩)
      · exact .inr (.inl ⟨hm0, by rw [← hs]; simp; omega, by rw [← e6, if_neg hlt, if_pos (by omega)]⟩)
  have hq6 : q6 = 0 := by rw [← Q6.out, hm.out]; rfl
  subst hq6
  have H13 : Hid (sumD s0 n0 x0 s1 n1 x1 = ⟨s13, n13, x13⟩ ∧ q13 = fits (sumD s0 n0 x0 s1 n1 x1)) := Lib.hid (by
    unfold sumD
    rw [HLV.out.1, HLV.out.2, hy]
    exact ⟨R13.out.1, by rw [R13.out.1]; exact R13.out.2⟩)
  have H14 : Hid (sumD s0 n0 x0 (!s1) n1 x1 = ⟨s14, n14, x14⟩ ∧ q14 = fits (sumD s0 n0 x0 (!s1) n1 x1)) := Lib.hid (by
    unfold sumD
    rw [HLV.out.1, lev_neg, HLV.out.2, hy, ← wn_not]
    exact ⟨R14.out.1, by rw [R14.out.1]; exact R14.out.2⟩)
  have HM := Lib.hid HO
  clear R13 R14 R6 Q6 HO rX rY HLV hdX hdY hdX2 hdY2
  have Br := (Below.refl Wb.heap.size Wb).drew
  have hG0 := G0.lt
  have hG1 := G1.lt
  have zb : Wb.drew.heap.size = Wb.heap.size := rfl
  have c00 := G0.cell (i := 0) rfl
  have c01 := G0.cell (i := 1) rfl
  have c02 := G0.cell (i := 2) rfl
  have c10 := G1.cell (i := 0) rfl
  have c11 := G1.cell (i := 1) rfl
  have c12 := G1.cell (i := 2) rfl
  have db : w.heap.size ≠ Wb.heap.size ∧ w.heap.size + 1 ≠ Wb.heap.size := ⟨by omega, by omega⟩
  have nn0 := World.new_ne _ _ c00
  have nn1 := World.new_ne _ _ c10
  go_region_held3 (fun w' => w'.cell? ⟨w.heap.size, 0, none⟩ = some (.bool s0) ∧ w'.cell? ⟨w.heap.size, 1, none⟩ = some (.slice a0 m0 k0) ∧ w'.cell? ⟨w.heap.size, 2, none⟩ = some (.int .i64 x0) ∧ w'.cell? ⟨w.heap.size + 1, 0, none⟩ = some (.bool s1) ∧ w'.cell? ⟨w.heap.size + 1, 1, none⟩ = some (.slice a1 m1 k1) ∧ w'.cell? ⟨w.heap.size + 1, 2, none⟩ = some (.int .i64 x1)) (first | with_reducible exact ⟨(G0.behind Br).cell rfl, (G0.behind Br).cell rfl, (G0.behind Br).cell rfl, (G1.behind Br).cell rfl, (G1.behind Br).cell rfl, (G1.behind Br).cell rfl⟩ | with_reducible exact ⟨(G0.behind (Br.alloc Br.size _)).cell rfl, (G0.behind (Br.alloc Br.size _)).cell rfl, (G0.behind (Br.alloc Br.size _)).cell rfl, (G1.behind (Br.alloc Br.size _)).cell rfl, (G1.behind (Br.alloc Br.size _)).cell rfl, (G1.behind (Br.alloc Br.size _)).cell rfl⟩ | with_reducible exact ⟨(G0.behind (((Below.refl _ _).alloc (Nat.le_refl _) _).drew)).cell rfl, (G0.behind (((Below.refl _ _).alloc (Nat.le_refl _) _).drew)).cell rfl, (G0.behind (((Below.refl _ _).alloc (Nat.le_refl _) _).drew)).cell rfl, (G1.behind (((Below.refl _ _).alloc (Nat.le_refl _) _).drew)).cell rfl, (G1.behind (((Below.refl _ _).alloc (Nat.le_refl _) _).drew)).cell rfl, (G1.behind (((Below.refl _ _).alloc (Nat.le_refl _) _).drew)).cell rfl⟩ | with_reducible exact ⟨((((G0.behind Br).put d17.1 _).put d17.1 _).put d17.1 _).cell rfl, ((((G0.behind Br).put d17.1 _).put d17.1 _).put d17.1 _).cell rfl, ((((G0.behind Br).put d17.1 _).put d17.1 _).put d17.1 _).cell rfl, ((((G1.behind Br).put d17.2 _).put d17.2 _).put d17.2 _).cell rfl, ((((G1.behind Br).put d17.2 _).put d17.2 _).put d17.2 _).cell rfl, ((((G1.behind Br).put d17.2 _).put d17.2 _).put d17.2 _).cell rfl⟩ | with_reducible exact ⟨((((G0.behind Br).put d16.1 _).put d16.1 _).put d16.1 _).cell rfl, ((((G0.behind Br).put d16.1 _).put d16.1 _).put d16.1 _).cell rfl, ((((G0.behind Br).put d16.1 _).put d16.1 _).put d16.1 _).cell rfl, ((((G1.behind Br).put d16.2 _).put d16.2 _).put d16.2 _).cell rfl, ((((G1.behind Br).put d16.2 _).put d16.2 _).put d16.2 _).cell rfl, ((((G1.behind Br).put d16.2 _).put d16.2 _).put d16.2 _).cell rfl⟩ | with_reducible exact ⟨((((G0.behind Br).put d15.1 _).put d15.1 _).put d15.1 _).cell rfl, ((((G0.behind Br).put d15.1 _).put d15.1 _).put d15.1 _).cell rfl, ((((G0.behind Br).put d15.1 _).put d15.1 _).put d15.1 _).cell rfl, ((((G1.behind Br).put d15.2 _).put d15.2 _).put d15.2 _).cell rfl, ((((G1.behind Br).put d15.2 _).put d15.2 _).put d15.2 _).cell rfl, ((((G1.behind Br).put d15.2 _).put d15.2 _).put d15.2 _).cell rfl⟩ | with_reducible exact ⟨((((G0.behind Br).put db.1 _).put db.1 _).put db.1 _).cell rfl, ((((G0.behind Br).put db.1 _).put db.1 _).put db.1 _).cell rfl, ((((G0.behind Br).put db.1 _).put db.1 _).put db.1 _).cell rfl, ((((G1.behind Br).put db.2 _).put db.2 _).put db.2 _).cell rfl, ((((G1.behind Br).put db.2 _).put db.2 _).put db.2 _).cell rfl, ((((G1.behind Br).put db.2 _).put db.2 _).put db.2 _).cell rfl⟩ | (refine ⟨?_, ?_, ?_, ?_, ?_, ?_⟩ <;> go_keep))
    (first
      | (have _ := rM; go_at_call 17; (with_reducible refine (ltold True (fun _ => ⟨by omega, by omega⟩) (rM.behind (by first | exact Below.refl _ _ | exact bel_alloc _ _)) (by omega) (by omega) (by omega)).mono ?_); rintro e v18 ⟨a18, m18, k18, s18, n18, x18, q18, rfl, N18, b, hle, hR⟩; have R18 := Lib.hid (hR trivial); clear hR hle; (first | (replace F := F.behind b) | (have F := (Cs.new v17 #[.bool false, .slice none 0 0, .int .i64 0] 24).behind b) | skip); (first | (have F0 := F.cell (i := 0) rfl; have F1 := F.cell (i := 1) rfl; have F2 := F.cell (i := 2) rfl; have F3 := F.f 0; have F4 := F.f 1; have F5 := F.f 2) | skip); replace Br : Below Wb.heap.size Wb v18 := (by first | exact below_both Br b | exact below_both (Br.alloc Br.size _) b | exact below_both (((Below.refl _ _).alloc (Nat.le_refl _) _).drew) b); clear b)
      | (have _ := rB; go_at_call 18; (with_reducible refine (rmul_num (rA.behind (by first | exact Below.refl _ _ | exact bel_alloc _ _)) (rB.behind (by first | exact Below.refl _ _ | exact bel_alloc _ _)) (by omega) (by omega)).mono ?_); rintro e v17 ⟨uM, rfl, rM, b⟩; (first | (replace F := F.behind b) | (have F := (Cs.new v16 #[.bool false, .slice none 0 0, .int .i64 0] 24).behind b) | skip); replace Br : Below Wb.heap.size Wb v17 := (by first | exact below_both Br b | exact below_both (Br.alloc Br.size _) b | exact below_both (((Below.refl _ _).alloc (Nat.le_refl _) _).drew) b); have z17 := Br.size; have d17 : w.heap.size ≠ v17.heap.size ∧ w.heap.size + 1 ≠ v17.heap.size := ⟨by omega, by omega⟩; clear b)
      | (have _ := rA; go_at_call 15; (with_reducible refine (of_num (hA1.behind (by first | exact Br | exact Br.alloc Br.size _ | exact ((Below.refl _ _).alloc (Nat.le_refl _) _).drew)) (by omega)).mono ?_); rintro e v16 ⟨uB, rfl, rB, b⟩; replace rA : RN v16 uA n0 (4 * 1024) := (by first | exact rA.behind b | exact (rA.behind (bel_alloc _ _)).behind b); (first | (replace F := F.behind b) | (have F := (Cs.new v15 #[.bool false, .slice none 0 0, .int .i64 0] 24).behind b) | skip); replace Br : Below Wb.heap.size Wb v16 := (by first | exact below_both Br b | exact below_both (Br.alloc Br.size _) b | exact below_both (((Below.refl _ _).alloc (Nat.le_refl _) _).drew) b); have z16 := Br.size; have d16 : w.heap.size ≠ v16.heap.size ∧ w.heap.size + 1 ≠ v16.heap.size := ⟨by omega, by omega⟩; clear b)
      | (go_at_call 15; (with_reducible refine (of_num (hA0.behind (by first | exact Br | exact Br.alloc Br.size _ | exact ((Below.refl _ _).alloc (Nat.le_refl _) _).drew)) (by omega)).mono ?_); rintro e v15 ⟨uA, rfl, rA, b⟩; (first | (have F := (Cs.new Wb #[.bool false, .slice none 0 0, .int .i64 0] 24).drew.behind b) | skip); replace Br : Below Wb.heap.size Wb v15 := (by first | exact below_both Br b | exact below_both (Br.alloc Br.size _) b | exact below_both (((Below.refl _ _).alloc (Nat.le_refl _) _).drew) b); have z15 := Br.size; have d15 : w.heap.size ≠ v15.heap.size ∧ w.heap.size + 1 ≠ v15.heap.size := ⟨by omega, by omega⟩; clear b))
  all_goals
    first
    | (have G18 : Cs _ v17.heap.size #[.bool s18, .slice a18 m18 k18, .int .i64 x18] 24 := ((F.set 0 (.bool s18)).set 1 (.slice a18 m18 k18)).set 2 (.int .i64 x18)
       have Bn : Below Wb.heap.size Wb _ := ((Br.setCell (p := ⟨v17.heap.size, 0, none⟩) (by show _ ≤ v17.heap.size; omega) (.bool s18)).setCell (p := ⟨v17.heap.size, 1, none⟩) (by show _ ≤ v17.heap.size; omega) (.slice a18 m18 k18)).setCell (p := ⟨v17.heap.size, 2, none⟩) (by show _ ≤ v17.heap.size; omega) (.int .i64 x18)
       replace N18 := N18.over F s18 a18 m18 k18 x18
       generalize (((v18.setCell ⟨v17.heap.size, 0, none⟩ (.bool s18)).setCell ⟨v17.heap.size, 1, none⟩ (.slice a18 m18 k18)).setCell ⟨v17.heap.size, 2, none⟩ (.int .i64 x18)) = Wn at Bn G18 N18 ⊢
       generalize v17.heap.size = g18 at G18 ⊢)
    | (have G18 : Cs _ v16.heap.size #[.bool s18, .slice a18 m18 k18, .int .i64 x18] 24 := ((F.set 0 (.bool s18)).set 1 (.slice a18 m18 k18)).set 2 (.int .i64 x18)
       have Bn : Below Wb.heap.size Wb _ := ((Br.setCell (p := ⟨v16.heap.size, 0, none⟩) (by show _ ≤ v16.heap.size; omega) (.bool s18)).setCell (p := ⟨v16.heap.size, 1, none⟩) (by show _ ≤ v16.heap.size; omega) (.slice a18 m18 k18)).setCell (p := ⟨v16.heap.size, 2, none⟩) (by show _ ≤ v16.heap.size; omega) (.int .i64 x18)
       replace N18 := N18.over F s18 a18 m18 k18 x18
       generalize (((v18.setCell ⟨v16.heap.size, 0, none⟩ (.bool s18)).setCell ⟨v16.heap.size, 1, none⟩ (.slice a18 m18 k18)).setCell ⟨v16.heap.size, 2, none⟩ (.int .i64 x18)) = Wn at Bn G18 N18 ⊢
       generalize v16.heap.size = g18 at G18 ⊢)
    | (have G18 : Cs _ v15.heap.size #[.bool s18, .slice a18 m18 k18, .int .i64 x18] 24 := ((F.set 0 (.bool s18)).set 1 (.slice a18 m18 k18)).set 2 (.int .i64 x18)
       have Bn : Below Wb.heap.size Wb _ := ((Br.setCell (p := ⟨v15.heap.size, 0, none⟩) (by show _ ≤ v15.heap.size; omega) (.bool s18)).setCell (p := ⟨v15.heap.size, 1, none⟩) (by show _ ≤ v15.heap.size; omega) (.slice a18 m18 k18)).setCell (p := ⟨v15.heap.size, 2, none⟩) (by show _ ≤ v15.heap.size; omega) (.int .i64 x18)
       replace N18 := N18.over F s18 a18 m18 k18 x18
       generalize (((v18.setCell ⟨v15.heap.size, 0, none⟩ (.bool s18)).setCell ⟨v15.heap.size, 1, none⟩ (.slice a18 m18 k18)).setCell ⟨v15.heap.size, 2, none⟩ (.int .i64 x18)) = Wn at Bn G18 N18 ⊢
       generalize v15.heap.size = g18 at G18 ⊢)
    | (have G18 : Cs _ Wb.heap.size #[.bool s18, .slice a18 m18 k18, .int .i64 x18] 24 := ((F.set 0 (.bool s18)).set 1 (.slice a18 m18 k18)).set 2 (.int .i64 x18)
       have Bn : Below Wb.heap.size Wb _ := ((Br.setCell (p := ⟨Wb.heap.size, 0, none⟩) (by show _ ≤ Wb.heap.size; omega) (.bool s18)).setCell (p := ⟨Wb.heap.size, 1, none⟩) (by show _ ≤ Wb.heap.size; omega) (.slice a18 m18 k18)).setCell (p := ⟨Wb.heap.size, 2, none⟩) (by show _ ≤ Wb.heap.size; omega) (.int .i64 x18)
       replace N18 := N18.over F s18 a18 m18 k18 x18
       generalize (((v18.setCell ⟨Wb.heap.size, 0, none⟩ (.bool s18)).setCell ⟨Wb.heap.size, 1, none⟩ (.slice a18 m18 k18)).setCell ⟨Wb.heap.size, 2, none⟩ (.int .i64 x18)) = Wn at Bn G18 N18 ⊢
       generalize Wb.heap.size = g18 at G18 ⊢)
    | (have Bn : Below Wb.heap.size Wb _ := Br.alloc Br.size (.cells #[.bool s18, .slice a18 m18 k18, .int .i64 x18] 24)
       have G18 := Cs.new v18 #[.bool s18, .slice a18 m18 k18, .int .i64 x18] 24
       replace N18 := N18.behind (bel_alloc v18 (.cells #[.bool s18, .slice a18 m18 k18, .int .i64 x18] 24))
       generalize (v18.alloc (.cells #[.bool s18, .slice a18 m18 k18, .int .i64 x18] 24)) = Wn at Bn G18 N18 ⊢
       generalize v18.heap.size = g18 at G18 ⊢)
    clear Br hG0 hG1 zb nn0 nn1 c00 c01 c02 c10 c11 c12 db
    (try clear F0 F1 F2 F3 F4 F5)
    replace G0 := G0.behind Bn
    replace G1 := G1.behind Bn
    replace G3 := G3.behind Bn
    replace G4 := G4.behind Bn
    replace G5 := G5.behind Bn
    replace G13 := G13.behind Bn
    replace G14 := G14.behind Bn
    replace N3 := N3.behind Bn
    replace N4 := N4.behind Bn
    replace N5 := N5.behind Bn
    replace N13 := N13.behind Bn
    replace N14 := N14.behind Bn
    replace B := below_both B Bn
    have H18 : Hid (mulD s0 n0 x0 s1 n1 x1 = ⟨s18, n18, x18⟩ ∧ q18 = fits (mulD s0 n0 x0 s1 n1 x1)) := Lib.hid (by
      unfold mulD
      rw [← bne_xor]
      exact ⟨R18.out.1, by rw [R18.out.1]; exact R18.out.2⟩)
    clear Bn R18 hA0 hA1 hT
    rcases HM.out with ⟨hm0, hz6⟩ | ⟨hm0, hs14, hz6⟩ | ⟨hm0, hs14, hz6⟩
    · have hd : decide (0 < m14) = false := decide_eq_false (by omega)
      have hd2 : decide ((0 : Int) < (m14 : Int)) = false := decide_eq_false (by omega)
      subst hz6
      clear HM hm0
      have d140 := G14.cell (i := 0) rfl
      have d141 := G14.cell (i := 1) rfl
      have c00 := G0.cell (i := 0) rfl
      have c01 := G0.cell (i := 1) rfl
      have c02 := G0.cell (i := 2) rfl
      have c10 := G1.cell (i := 0) rfl
      have c11 := G1.cell (i := 1) rfl
      have c12 := G1.cell (i := 2) rfl
      have c30 := G3.cell (i := 0) rfl
      have c31 := G3.cell (i := 1) rfl
      have c32 := G3.cell (i := 2) rfl
      have c130 := G13.cell (i := 0) rfl
      have c131 := G13.cell (i := 1) rfl
      have c132 := G13.cell (i := 2) rfl
      go_wp2_with fail
      refine (lis N3 N13 R3.out Q3.out (fun _ => H13.out)).mono ?_
      rintro e u1 ⟨rfl, b⟩
      clear d140 d141 c00 c01 c02 c10 c11 c12 c30 c31 c32 c130 c131 c132
      replace G0 := G0.behind b
      
      replace G1 := G1.behind b
      
      replace G4 := G4.behind b
      replace N4 := N4.behind b
      replace G5 := G5.behind b
      replace N5 := N5.behind b
      replace G14 := G14.behind b
      replace N14 := N14.behind b
      replace G18 := G18.behind b
      replace N18 := N18.behind b
      replace B := below_both B b
      clear b
      have c00 := G0.cell (i := 0) rfl
      have c01 := G0.cell (i := 1) rfl
      have c02 := G0.cell (i := 2) rfl
      have c10 := G1.cell (i := 0) rfl
      have c11 := G1.cell (i := 1) rfl
      have c12 := G1.cell (i := 2) rfl
      have c40 := G4.cell (i := 0) rfl
      have c41 := G4.cell (i := 1) rfl
      have c42 := G4.cell (i := 2) rfl
      have c140 := G14.cell (i := 0) rfl
      have c141 := G14.cell (i := 1) rfl
      have c142 := G14.cell (i := 2) rfl
      go_wp2_with fail
      refine (lis N4 N14 R4.out Q4.out (fun _ => H14.out)).mono ?_
      rintro e u2 ⟨rfl, b⟩
      clear c00 c01 c02 c10 c11 c12 c40 c41 c42 c140 c141 c142
      replace G0 := G0.behind b
      
      replace G1 := G1.behind b
      
      replace G5 := G5.behind b
      replace N5 := N5.behind b
      replace G18 := G18.behind b
      replace N18 := N18.behind b
      replace B := below_both B b
      clear b
      have c00 := G0.cell (i := 0) rfl
      have c01 := G0.cell (i := 1) rfl
      have c02 := G0.cell (i := 2) rfl
      have c10 := G1.cell (i := 0) rfl
      have c11 := G1.cell (i := 1) rfl
      have c12 := G1.cell (i := 2) rfl
      have c50 := G5.cell (i := 0) rfl
      have c51 := G5.cell (i := 1) rfl
      have c52 := G5.cell (i := 2) rfl
      have c180 := G18.cell (i := 0) rfl
      have c181 := G18.cell (i := 1) rfl
      have c182 := G18.cell (i := 2) rfl
      go_wp2_with fail
      refine (lis N5 N18 R5.out Q5.out (fun _ => H18.out)).mono ?_
      rintro e u3 ⟨rfl, b⟩
      clear c00 c01 c02 c10 c11 c12 c50 c51 c52 c180 c181 c182
      replace B := below_both B b
      clear b
      go_wp2
      go_ret
      exact ⟨rfl, B⟩
    · have hd : decide (0 < m14) = true := decide_eq_true (by omega)
      have hd2 : decide ((0 : Int) < (m14 : Int)) = true := decide_eq_true (by omega)
      subst hz6
      subst hs14
      clear HM hm0
      have d140 := G14.cell (i := 0) rfl
      have d141 := G14.cell (i := 1) rfl
      have c00 := G0.cell (i := 0) rfl
      have c01 := G0.cell (i := 1) rfl
      have c02 := G0.cell (i := 2) rfl
      have c10 := G1.cell (i := 0) rfl
      have c11 := G1.cell (i := 1) rfl
      have c12 := G1.cell (i := 2) rfl
      have c30 := G3.cell (i := 0) rfl
      have c31 := G3.cell (i := 1) rfl
      have c32 := G3.cell (i := 2) rfl
      have c130 := G13.cell (i := 0) rfl
      have c131 := G13.cell (i := 1) rfl
      have c132 := G13.cell (i := 2) rfl
      go_wp2_with fail
      refine (lis N3 N13 R3.out Q3.out (fun _ => H13.out)).mono ?_
      rintro e u1 ⟨rfl, b⟩
      clear d140 d141 c00 c01 c02 c10 c11 c12 c30 c31 c32 c130 c131 c132
      replace G0 := G0.behind b
      
      replace G1 := G1.behind b
      
      replace G4 := G4.behind b
      replace N4 := N4.behind b
      replace G5 := G5.behind b
      replace N5 := N5.behind b
      replace G14 := G14.behind b
      replace N14 := N14.behind b
      replace G18 := G18.behind b
      replace N18 := N18.behind b
      replace B := below_both B b
      clear b
      have c00 := G0.cell (i := 0) rfl
      have c01 := G0.cell (i := 1) rfl
      have c02 := G0.cell (i := 2) rfl
      have c10 := G1.cell (i := 0) rfl
      have c11 := G1.cell (i := 1) rfl
      have c12 := G1.cell (i := 2) rfl
      have c40 := G4.cell (i := 0) rfl
      have c41 := G4.cell (i := 1) rfl
      have c42 := G4.cell (i := 2) rfl
      have c140 := G14.cell (i := 0) rfl
      have c141 := G14.cell (i := 1) rfl
      have c142 := G14.cell (i := 2) rfl
      go_wp2_with fail
      refine (lis N4 N14 R4.out Q4.out (fun _ => H14.out)).mono ?_
      rintro e u2 ⟨rfl, b⟩
      clear c00 c01 c02 c10 c11 c12 c40 c41 c42 c140 c141 c142
      replace G0 := G0.behind b
      
      replace G1 := G1.behind b
      
      replace G5 := G5.behind b
      replace N5 := N5.behind b
      replace G18 := G18.behind b
      replace N18 := N18.behind b
      replace B := below_both B b
      clear b
      have c00 := G0.cell (i := 0) rfl
      have c01 := G0.cell (i := 1) rfl
      have c02 := G0.cell (i := 2) rfl
      have c10 := G1.cell (i := 0) rfl
      have c11 := G1.cell (i := 1) rfl
      have c12 := G1.cell (i := 2) rfl
      have c50 := G5.cell (i := 0) rfl
      have c51 := G5.cell (i := 1) rfl
      have c52 := G5.cell (i := 2) rfl
      have c180 := G18.cell (i := 0) rfl
      have c181 := G18.cell (i := 1) rfl
      have c182 := G18.cell (i := 2) rfl
      go_wp2_with fail
      refine (lis N5 N18 R5.out Q5.out (fun _ => H18.out)).mono ?_
      rintro e u3 ⟨rfl, b⟩
      clear c00 c01 c02 c10 c11 c12 c50 c51 c52 c180 c181 c182
      replace B := below_both B b
      clear b
      go_wp2
      go_ret
      exact ⟨rfl, B⟩
    · have hd : decide (0 < m14) = true := decide_eq_true (by omega)
      have hd2 : decide ((0 : Int) < (m14 : Int)) = true := decide_eq_true (by omega)
      subst hz6
      subst hs14
      clear HM hm0
      have d140 := G14.cell (i := 0) rfl
      have d141 := G14.cell (i := 1) rfl
      have c00 := G0.cell (i := 0) rfl
      have c01 := G0.cell (i := 1) rfl
      have c02 := G0.cell (i := 2) rfl
      have c10 := G1.cell (i := 0) rfl
      have c11 := G1.cell (i := 1) rfl
      have c12 := G1.cell (i := 2) rfl
      have c30 := G3.cell (i := 0) rfl
      have c31 := G3.cell (i := 1) rfl
      have c32 := G3.cell (i := 2) rfl
      have c130 := G13.cell (i := 0) rfl
      have c131 := G13.cell (i := 1) rfl
      have c132 := G13.cell (i := 2) rfl
      go_wp2_with fail
      refine (lis N3 N13 R3.out Q3.out (fun _ => H13.out)).mono ?_
      rintro e u1 ⟨rfl, b⟩
      clear d140 d141 c00 c01 c02 c10 c11 c12 c30 c31 c32 c130 c131 c132
      replace G0 := G0.behind b
      
      replace G1 := G1.behind b
      
      replace G4 := G4.behind b
      replace N4 := N4.behind b
      replace G5 := G5.behind b
      replace N5 := N5.behind b
      replace G14 := G14.behind b
      replace N14 := N14.behind b
      replace G18 := G18.behind b
      replace N18 := N18.behind b
      replace B := below_both B b
      clear b
      have c00 := G0.cell (i := 0) rfl
      have c01 := G0.cell (i := 1) rfl
      have c02 := G0.cell (i := 2) rfl
      have c10 := G1.cell (i := 0) rfl
      have c11 := G1.cell (i := 1) rfl
      have c12 := G1.cell (i := 2) rfl
      have c40 := G4.cell (i := 0) rfl
      have c41 := G4.cell (i := 1) rfl
      have c42 := G4.cell (i := 2) rfl
      have c140 := G14.cell (i := 0) rfl
      have c141 := G14.cell (i := 1) rfl
      have c142 := G14.cell (i := 2) rfl
      go_wp2_with fail
      refine (lis N4 N14 R4.out Q4.out (fun _ => H14.out)).mono ?_
      rintro e u2 ⟨rfl, b⟩
      clear c00 c01 c02 c10 c11 c12 c40 c41 c42 c140 c141 c142
      replace G0 := G0.behind b
      
      replace G1 := G1.behind b
      
      replace G5 := G5.behind b
      replace N5 := N5.behind b
      replace G18 := G18.behind b
      replace N18 := N18.behind b
      replace B := below_both B b
      clear b
      have c00 := G0.cell (i := 0) rfl
      have c01 := G0.cell (i := 1) rfl
      have c02 := G0.cell (i := 2) rfl
      have c10 := G1.cell (i := 0) rfl
      have c11 := G1.cell (i := 1) rfl
      have c12 := G1.cell (i := 2) rfl
      have c50 := G5.cell (i := 0) rfl
      have c51 := G5.cell (i := 1) rfl
      have c52 := G5.cell (i := 2) rfl
      have c180 := G18.cell (i := 0) rfl
      have c181 := G18.cell (i := 1) rfl
      have c182 := G18.cell (i := 2) rfl
      go_wp2_with fail
      refine (lis N5 N18 R5.out Q5.out (fun _ => H18.out)).mono ?_
      rintro e u3 ⟨rfl, b⟩
      clear c00 c01 c02 c10 c11 c12 c50 c51 c52 c180 c181 c182
      replace B := below_both B b
      clear b
      go_wp2
      go_ret
      exact ⟨rfl, B⟩
end Go.Proofs.YthipbonhkcjcfaaDoor
