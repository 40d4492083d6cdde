/- vernierlaw04.DyadicPlain: true, whatever the number and the ints. -/
import Derived.Test.YthipbonhkcjcfaaDoorDyIs
namespace Go.Proofs.YthipbonhkcjcfaaDoor
open Go.RowKit Go.Shelf
attribute [local go_sem ↓] Go.wp_at_zero Go.wp_at_succ

theorem New.laid {n g : Nat} {W : World} {v : Value} {xs : List Nat} (h : New n W v xs) (G : Cs W g #[.bool false, .slice none 0 0, .int .i64 0] 24) (s : Bool) (a : Option Addr) (m c : Nat) (x : Int) :
    New n (((W.setCell ⟨g, 0, none⟩ (.bool s)).setCell ⟨g, 1, none⟩ (.slice a m c)).setCell ⟨g, 2, none⟩ (.int .i64 x)) v xs := by
  obtain ⟨S, h1, h2, h3⟩ := h
  refine ⟨S, ?_, by simpa [World.setCell] using h2, h3⟩
  rcases h1 with h1 | ⟨off, cap, e, hl, hc⟩
  · exact .inl h1
  · by_cases h0 : xs.length = 0
    · exact .inr ⟨off, cap, e, hl, fun j hj => by omega⟩
    · have hS : S ≠ g := by
        rintro rfl
        have h4 := hc 0 (by omega)
        rw [cell_of_row W S (off + 0) _ _ (0, 0) G] at h4
        have h5 : off + 0 < 3 := by
          rcases Nat.lt_or_ge (off + 0) 3 with h | h
          · exact h
          · rw [Array.getElem?_eq_none (by simpa using h)] at h4; cases h4
        generalize off + 0 = z at h4 h5
        have : z = 0 ∨ z = 1 ∨ z = 2 := by omega
        rcases this with rfl | rfl | rfl <;> (simp at h4)
      exact RdAt.kept (.inr ⟨off, cap, e, hl, hc⟩) (by
        rw [Below.heap_setCell _ _ _ _ hS, Below.heap_setCell _ _ _ _ hS, Below.heap_setCell _ _ _ _ hS])
theorem New.setD {n g j : Nat} {W : World} {v : Value} {xs : List Nat} {s : Bool} {a : Option Addr} {m c : Nat} {x : Int} (h : New n W v xs) (G : Cs W g #[.bool s, .slice a m c, .int .i64 x] 24) (u : Value) : New n (W.setCell ⟨g, j, none⟩ u) v xs := by
  obtain ⟨S, h1, h2, h3⟩ := h
  refine ⟨S, ?_, by simpa [World.setCell] using h2, h3⟩
  rcases h1 with h1 | ⟨off, cap, e, hl, hc⟩
  · exact .inl h1
  · by_cases h0 : xs.length = 0
    · exact .inr ⟨off, cap, e, hl, fun j hj => by omega⟩
    · have hS : S ≠ g := by
        rintro rfl
        have h4 := hc 0 (by omega)
        rw [cell_of_row W S (off + 0) _ _ (0, 0) G] at h4
        have h5 : off + 0 < 3 := by
          rcases Nat.lt_or_ge (off + 0) 3 with h | h
          · exact h
          · rw [Array.getElem?_eq_none (by simpa using h)] at h4; cases h4
        generalize off + 0 = z at h4 h5
        have : z = 0 ∨ z = 1 ∨ z = 2 := by omega
        rcases this with rfl | rfl | rfl <;> (simp at h4)
      exact RdAt.kept (.inr ⟨off, cap, e, hl, hc⟩) (Below.heap_setCell _ _ _ _ hS)
theorem word_nat (U : Nat) (hU : U < 18446744073709551616) (w : World) :
    Calls Tryd.prog 24 #[.int .u64 (U : Int)] w fun e W' => ∃ v, e = .returned v ∧ RN W' v U 4 ∧ Below w.heap.size w W' := by
  have hn := num_one w U hU
  have hb := bel_alloc w (.cells #[.int .u64 (U : Int)] 45)
  go_enter Tryd.func24, Tryd.ntmps24
  go_wp2_with fail
  generalize (w.alloc (.cells #[.int .u64 (U : Int)] 45)) = W0 at hn hb ⊢
  refine (of_num hn (by omega)).mono ?_
  rintro e w1 ⟨v, rfl, r1, b1⟩
  obtain ⟨a, c, rfl, hc⟩ := r1.slice
  clear hc
  go_wp2
  go_ret
  exact ⟨_, rfl, r1, below_both hb b1⟩
theorem word_calls (u : Int) (h0 : 0 ≤ u) (h1 : u < 18446744073709551616) (w : World) :
    Calls Tryd.prog 24 #[.int .u64 u] w fun e W' => ∃ v, e = .returned v ∧ RN W' v u.natAbs 4 ∧ Below w.heap.size w W' := by
  have := word_nat u.natAbs (by omega) w
  rwa [show ((u.natAbs : Nat) : Int) = u by omega] at this
theorem tld_abs {s : Bool} {N : Nat} {E : Int} {t : Bool} {n : Nat} {x : Int} (h : tld s N E = ⟨t, n, x⟩) : tld false N E = ⟨false, n, x⟩ := by
  by_cases h0 : N = 0
  · subst h0
    rw [tld_zero] at h ⊢
    obtain ⟨-, rfl, rfl⟩ := dn_eq h
    rfl
  · rw [tld_pos _ h0] at h ⊢
    obtain ⟨-, rfl, rfl⟩ := dn_eq h
    rfl
theorem fits_abs (s t : Bool) (n : Nat) (x : Int) : fits ⟨s, n, x⟩ = fits ⟨t, n, x⟩ := rfl
theorem mb_xor (m : Nat) (E : Int) (mb : Bool) (h : mayB m E = mb) : ((!mb) == (chk m E == 9)) = true := by
  unfold chk
  rw [h]
  cases mb <;> rfl
set_option maxRecDepth 100000 in
set_option maxHeartbeats 8000000 in
theorem plain_walk {s0 : Bool} {a0 : Option Addr} {m0 k0 n0 : Nat} {x0 z E : Int} {w : World} {mb : Bool} (hA0 : Num w (.slice a0 m0 k0) n0 1048576) (hT : TabOk w) (hx1 : -9223372036854775808 ≤ x0) (hx2 : x0 < 9223372036854775808) (hz1 : -9223372036854775808 ≤ z) (hz2 : z < 9223372036854775808) (hm : Hid (mayB m0 x0 = mb)) :
    Calls Tryd.prog 4 #[.agg #[.bool s0, .slice a0 m0 k0, .int .i64 x0], .int .i64 z, .int .i64 E] w fun e W' => e = .returned (.bool true) ∧ Below w.heap.size w W' := by
  have hxor := mb_xor m0 x0 mb hm.out
  have hb := dbox1 w #[.bool s0, .slice a0 m0 k0, .int .i64 x0] 24 _ rfl
  have hbs := fun (W : World) (s : Bool) (a : Option Addr) (m c : Nat) (x : Int) => dbox1 W #[.bool s, .slice a m c, .int .i64 x] 24
  go_enter Tryd.func4, Tryd.ntmps4
  go_wp2_with fail
  obtain ⟨hB, G0, hsz⟩ := hb
  generalize (w.alloc (.cells #[.bool s0, .slice a0 m0 k0, .int .i64 x0] 24)) = W0 at hB G0 hsz ⊢
  replace hT := hT.behind hB
  refine (lalive W0 hT).mono ?_
  rintro e w1 ⟨rfl, b1⟩
  replace hT := hT.behind b1
  replace hA0 := (hA0.behind hB).behind b1
  replace G0 := G0.behind b1
  have B := below_both hB b1
  clear b1 hB
  have c00 := G0.cell (i := 0) rfl
  have c01 := G0.cell (i := 1) rfl
  have c02 := G0.cell (i := 2) rfl
  go_wp2_with fail
  refine (dnorm hA0 hT).mono ?_
  rintro e v1 ⟨a1, m1, k1, s1, n1, x1, q1, rfl, N1, b, hR, hQ⟩
  have R1 := Lib.hid hR
  have Q1 := Lib.hid hQ
  clear hR hQ c00 c01 c02
  obtain ⟨bx, G1, -⟩ := hbs v1 s1 a1 m1 k1 x1 _ rfl
  replace G0 := (G0.behind b).behind bx
  replace hA0 := (hA0.behind b).behind bx
  replace hT := (hT.behind b).behind bx
  replace N1 := N1.behind bx
  replace B := below_both (below_both B b) bx
  clear b bx
  have c00 := G0.cell (i := 0) rfl
  have c01 := G0.cell (i := 1) rfl
  have c02 := G0.cell (i := 2) rfl
  go_wp2_with fail
  refine (dabs hA0 hT).mono ?_
  rintro e v2 ⟨a2, m2, k2, s2, n2, x2, q2, rfl, N2, b, hR, hQ⟩
  have R2 := Lib.hid hR
  have Q2 := Lib.hid hQ
  clear hR hQ c00 c01 c02
  obtain ⟨bx, G2, -⟩ := hbs v2 s2 a2 m2 k2 x2 _ rfl
  replace G0 := (G0.behind b).behind bx
  replace G1 := (G1.behind b).behind bx
  replace N1 := (N1.behind b).behind bx
  replace hA0 := (hA0.behind b).behind bx
  replace hT := (hT.behind b).behind bx
  replace N2 := N2.behind bx
  replace B := below_both (below_both B b) bx
  clear b bx
  have c00 := G0.cell (i := 0) rfl
  have c01 := G0.cell (i := 1) rfl
  have c02 := G0.cell (i := 2) rfl
  go_wp2_with fail
  refine (dof hz1 hz2 hT).mono ?_
  rintro e v3 ⟨a3, m3, k3, s3, n3, x3, q3, rfl, N3, b, hR, hQ⟩
  have R3 := Lib.hid hR
  have Q3 := Lib.hid hQ
  clear hR hQ c00 c01 c02
  obtain ⟨bx, G3, -⟩ := hbs v3 s3 a3 m3 k3 x3 _ rfl
  replace G0 := (G0.behind b).behind bx
  replace G1 := (G1.behind b).behind bx
  replace G2 := (G2.behind b).behind bx
  replace N1 := (N1.behind b).behind bx
  replace N2 := (N2.behind b).behind bx
  replace hA0 := (hA0.behind b).behind bx
  replace hT := (hT.behind b).behind bx
  replace N3 := N3.behind bx
  replace B := below_both (below_both B b) bx
  clear b bx
  have c00 := G0.cell (i := 0) rfl
  have c01 := G0.cell (i := 1) rfl
  have c02 := G0.cell (i := 2) rfl
  go_wp2_with fail
  clear c00 c01 c02
  generalize (v3.alloc (.cells #[.bool s3, .slice a3 m3 k3, .int .i64 x3] 24)) = Wb at G0 G1 G2 G3 N1 N2 N3 hA0 hT B ⊢
  generalize v3.heap.size = g3 at G3 ⊢
  have Br := (Below.refl Wb.heap.size Wb).drew
  have hG0 := G0.lt
  have zb : Wb.drew.heap.size = Wb.heap.size := rfl
  have db : w.heap.size ≠ Wb.heap.size := by omega
  have c00 := G0.cell (i := 0) rfl
  have c01 := G0.cell (i := 1) rfl
  have c02 := G0.cell (i := 2) rfl
  have nn0 := World.new_ne _ _ c00
  go_region_held3 (fun w' => w'.cell? ⟨w.heap.size, 0, none⟩ = some (.bool s0) ∧ w'.cell? ⟨w.heap.size, 1, none⟩ = some (.slice a0 m0 k0) ∧ w'.cell? ⟨w.heap.size, 2, none⟩ = some (.int .i64 x0)) (first | with_reducible exact ⟨(G0.behind Br).cell rfl, (G0.behind Br).cell rfl, (G0.behind Br).cell rfl⟩ | with_reducible exact ⟨(G0.behind (Br.alloc Br.size _)).cell rfl, (G0.behind (Br.alloc Br.size _)).cell rfl, (G0.behind (Br.alloc Br.size _)).cell rfl⟩ | with_reducible exact ⟨(G0.behind (((Below.refl _ _).alloc (Nat.le_refl _) _).drew)).cell rfl, (G0.behind (((Below.refl _ _).alloc (Nat.le_refl _) _).drew)).cell rfl, (G0.behind (((Below.refl _ _).alloc (Nat.le_refl _) _).drew)).cell rfl⟩ | with_reducible exact ⟨((((G0.behind Br).put d5 _).put d5 _).put d5 _).cell rfl, ((((G0.behind Br).put d5 _).put d5 _).put d5 _).cell rfl, ((((G0.behind Br).put d5 _).put d5 _).put d5 _).cell rfl⟩ | with_reducible exact ⟨((((G0.behind Br).put db _).put db _).put db _).cell rfl, ((((G0.behind Br).put db _).put db _).put db _).cell rfl, ((((G0.behind Br).put db _).put db _).put db _).cell rfl⟩ | (refine ⟨?_, ?_, ?_⟩ <;> go_keep))
    (first
      | (have _ := rA; go_at_call 17; (with_reducible refine (ltold (-1048576 ≤ x0 ∧ x0 ≤ 1048576) id (rA.behind (by first | exact Below.refl _ _ | exact bel_alloc _ _)) (by omega) hx1 hx2).mono ?_); rintro e v4 ⟨a4, m4, k4, s4, n4, x4, q4, rfl, N4, b, -, hR⟩; have R4 := Lib.hid hR; clear hR; (first | (replace F := F.behind b) | (have F := (Cs.new v5 #[.bool false, .slice none 0 0, .int .i64 0] 24).behind b) | skip); (first | (have F0 := F.cell (i := 0) rfl; have F1 := F.cell (i := 1) rfl; have F2 := F.cell (i := 2) rfl; have F3 := F.f 0; have F4 := F.f 1; have F5 := F.f 2) | skip); replace Br : Below Wb.heap.size Wb v4 := (by first | exact below_both Br b | exact below_both (Br.alloc Br.size _) b | exact below_both (((Below.refl _ _).alloc (Nat.le_refl _) _).drew) b); clear b)
      | (go_at_call 15; (with_reducible refine (of_num (hA0.behind (by first | exact Br | exact Br.alloc Br.size _ | exact ((Below.refl _ _).alloc (Nat.le_refl _) _).drew)) (by omega)).mono ?_); rintro e v5 ⟨uA, rfl, rA, b⟩; (first | (have F := (Cs.new Wb #[.bool false, .slice none 0 0, .int .i64 0] 24).drew.behind b) | skip); replace Br : Below Wb.heap.size Wb v5 := (by first | exact below_both Br b | exact below_both (Br.alloc Br.size _) b | exact below_both (((Below.refl _ _).alloc (Nat.le_refl _) _).drew) b); have z5 := Br.size; have d5 : w.heap.size ≠ v5.heap.size := (by omega); clear b))
  all_goals
    have z4 := Br.size
    have hl2 := G2.lt
    have hl3 := G3.lt
    first
    | (have G4 : Cs _ v5.heap.size #[.bool s4, .slice a4 m4 k4, .int .i64 x4] 24 := ((F.set 0 (.bool s4)).set 1 (.slice a4 m4 k4)).set 2 (.int .i64 x4)
       have Bn : Below Wb.heap.size Wb _ := ((Br.setCell (p := ⟨v5.heap.size, 0, none⟩) (by show _ ≤ v5.heap.size; omega) (.bool s4)).setCell (p := ⟨v5.heap.size, 1, none⟩) (by show _ ≤ v5.heap.size; omega) (.slice a4 m4 k4)).setCell (p := ⟨v5.heap.size, 2, none⟩) (by show _ ≤ v5.heap.size; omega) (.int .i64 x4)
       have hg4 : w.heap.size < v5.heap.size ∧ v2.heap.size < v5.heap.size ∧ g3 < v5.heap.size := ⟨by omega, by omega, by omega⟩
       replace N4 := N4.laid F s4 a4 m4 k4 x4
       generalize (((v4.setCell ⟨v5.heap.size, 0, none⟩ (.bool s4)).setCell ⟨v5.heap.size, 1, none⟩ (.slice a4 m4 k4)).setCell ⟨v5.heap.size, 2, none⟩ (.int .i64 x4)) = Wn at Bn G4 N4 ⊢
       generalize v5.heap.size = g4 at G4 hg4 ⊢)
    | (have G4 : Cs _ Wb.heap.size #[.bool s4, .slice a4 m4 k4, .int .i64 x4] 24 := ((F.set 0 (.bool s4)).set 1 (.slice a4 m4 k4)).set 2 (.int .i64 x4)
       have Bn : Below Wb.heap.size Wb _ := ((Br.setCell (p := ⟨Wb.heap.size, 0, none⟩) (by show _ ≤ Wb.heap.size; omega) (.bool s4)).setCell (p := ⟨Wb.heap.size, 1, none⟩) (by show _ ≤ Wb.heap.size; omega) (.slice a4 m4 k4)).setCell (p := ⟨Wb.heap.size, 2, none⟩) (by show _ ≤ Wb.heap.size; omega) (.int .i64 x4)
       have hg4 : w.heap.size < Wb.heap.size ∧ v2.heap.size < Wb.heap.size ∧ g3 < Wb.heap.size := ⟨by omega, by omega, by omega⟩
       replace N4 := N4.laid F s4 a4 m4 k4 x4
       generalize (((v4.setCell ⟨Wb.heap.size, 0, none⟩ (.bool s4)).setCell ⟨Wb.heap.size, 1, none⟩ (.slice a4 m4 k4)).setCell ⟨Wb.heap.size, 2, none⟩ (.int .i64 x4)) = Wn at Bn G4 N4 ⊢
       generalize Wb.heap.size = g4 at G4 hg4 ⊢)
    | (have Bn : Below Wb.heap.size Wb _ := Br.alloc Br.size (.cells #[.bool s4, .slice a4 m4 k4, .int .i64 x4] 24)
       have G4 := Cs.new v4 #[.bool s4, .slice a4 m4 k4, .int .i64 x4] 24
       have hg4 : w.heap.size < v4.heap.size ∧ v2.heap.size < v4.heap.size ∧ g3 < v4.heap.size := ⟨by omega, by omega, by omega⟩
       replace N4 := N4.behind (bel_alloc v4 (.cells #[.bool s4, .slice a4 m4 k4, .int .i64 x4] 24))
       generalize (v4.alloc (.cells #[.bool s4, .slice a4 m4 k4, .int .i64 x4] 24)) = Wn at Bn G4 N4 ⊢
       generalize v4.heap.size = g4 at G4 hg4 ⊢)
    clear Br zb nn0 c00 c01 c02 db
    (try clear F0 F1 F2 F3 F4 F5)
    replace G0 := G0.behind Bn
    replace G1 := G1.behind Bn
    replace G2 := G2.behind Bn
    replace G3 := G3.behind Bn
    replace N1 := N1.behind Bn
    replace N2 := N2.behind Bn
    replace N3 := N3.behind Bn
    replace hT := hT.behind Bn
    replace B := below_both B Bn
    have H4 : Hid ((mayB m0 x0 && mayB m0 x0) = true → tld s0 n0 x0 = ⟨s4, n4, x4⟩ ∧ q4 = fits (tld s0 n0 x0)) := Lib.hid (fun h => by
      rw [Bool.and_self, mayB_iff] at h
      have h2 := R4.out ⟨by omega, by omega⟩
      exact ⟨h2.1, by rw [h2.1]; exact h2.2⟩)
    have H5 : Hid ((mayB m0 x0 && mayB m0 x0) = true → tld false n0 x0 = ⟨false, n4, x4⟩ ∧ q4 = fits (tld false n0 x0)) := Lib.hid (fun h => by
      have h2 := H4.out h
      have h3 := tld_abs h2.1
      exact ⟨h3, by rw [h3]; rw [h2.1] at h2; exact h2.2⟩)
    have hR1 : Hid (resD (mayB m0 x0 && mayB m0 x0) (tld s0 n0 x0) = ⟨s1, n1, x1⟩) := Lib.hid (by rw [Bool.and_self]; exact R1.out)
    have hQ1 : Hid (resE (mayB m0 x0 && mayB m0 x0) (tld s0 n0 x0) = q1) := Lib.hid (by rw [Bool.and_self]; exact Q1.out)
    have hR2 : Hid (resD (mayB m0 x0 && mayB m0 x0) (tld false n0 x0) = ⟨s2, n2, x2⟩) := Lib.hid (by rw [Bool.and_self]; exact R2.out)
    have hQ2 : Hid (resE (mayB m0 x0 && mayB m0 x0) (tld false n0 x0) = q2) := Lib.hid (by rw [Bool.and_self]; exact Q2.out)
    clear R1 Q1 R2 Q2 R4 Bn hA0
    have c00 := G0.cell (i := 0) rfl
    have c01 := G0.cell (i := 1) rfl
    have c02 := G0.cell (i := 2) rfl
    have c10 := G1.cell (i := 0) rfl
    have c11 := G1.cell (i := 1) rfl
    have c12 := G1.cell (i := 2) rfl
    have c40 := G4.cell (i := 0) rfl
    have c41 := G4.cell (i := 1) rfl
    have c42 := G4.cell (i := 2) rfl
    go_wp2_with fail
    clear c00 c01 c02 c10 c11 c12 c40 c41 c42
    have bd := (Below.refl Wn.heap.size Wn).drew
    replace G0 := G0.behind bd
    replace G1 := G1.behind bd
    replace G2 := G2.behind bd
    replace G3 := G3.behind bd
    replace G4 := G4.behind bd
    replace hT := hT.behind bd
    replace N1 := N1.behind bd
    replace N2 := N2.behind bd
    replace N3 := N3.behind bd
    replace N4 := N4.behind bd
    replace B := below_both B bd
    clear bd
    have c00 := G0.cell (i := 0) rfl
    have c01 := G0.cell (i := 1) rfl
    have c02 := G0.cell (i := 2) rfl
    have c10 := G1.cell (i := 0) rfl
    have c11 := G1.cell (i := 1) rfl
    have c12 := G1.cell (i := 2) rfl
    have c40 := G4.cell (i := 0) rfl
    have c41 := G4.cell (i := 1) rfl
    have c42 := G4.cell (i := 2) rfl
    go_region_held3 (fun w' => w'.cell? ⟨w.heap.size, 0, none⟩ = some (.bool s0) ∧ w'.cell? ⟨w.heap.size, 1, none⟩ = some (.slice a0 m0 k0) ∧ w'.cell? ⟨w.heap.size, 2, none⟩ = some (.int .i64 x0) ∧ w'.cell? ⟨v1.heap.size, 0, none⟩ = some (.bool s1) ∧ w'.cell? ⟨v1.heap.size, 1, none⟩ = some (.slice a1 m1 k1) ∧ w'.cell? ⟨v1.heap.size, 2, none⟩ = some (.int .i64 x1) ∧ w'.cell? ⟨g4, 0, none⟩ = some (.bool s4) ∧ w'.cell? ⟨g4, 1, none⟩ = some (.slice a4 m4 k4) ∧ w'.cell? ⟨g4, 2, none⟩ = some (.int .i64 x4)) (first | with_reducible exact ⟨G0.cell rfl, G0.cell rfl, G0.cell rfl, G1.cell rfl, G1.cell rfl, G1.cell rfl, G4.cell rfl, G4.cell rfl, G4.cell rfl⟩ | (refine ⟨?_, ?_, ?_, ?_, ?_, ?_, ?_, ?_, ?_⟩ <;> go_keep))
      (first
        | (go_at_call 19; (with_reducible refine (lis N1 N4 hR1.out hQ1.out H4.out).mono ?_); rintro e y1 ⟨rfl, b⟩; replace G0 := G0.behind b; replace G1 := G1.behind b; replace G2 := G2.behind b; replace G3 := G3.behind b; replace G4 := G4.behind b; replace hT := hT.behind b; replace N1 := N1.behind b; replace N2 := N2.behind b; replace N3 := N3.behind b; replace N4 := N4.behind b; replace B := below_both B b; clear b)
        | (go_at_call 12; (with_reducible refine (lmay_is hm.out _).mono ?_); rintro e y2 ⟨rfl, b⟩; replace G0 := G0.behind b; replace G1 := G1.behind b; replace G2 := G2.behind b; replace G3 := G3.behind b; replace G4 := G4.behind b; replace hT := hT.behind b; replace N1 := N1.behind b; replace N2 := N2.behind b; replace N3 := N3.behind b; replace N4 := N4.behind b; replace B := below_both B b; clear b)
        | (go_at_call 23; (with_reducible refine (check_calls _ _ _ _ _ _).mono ?_); rintro e y3 ⟨rfl, b⟩; replace G0 := G0.behind b; replace G1 := G1.behind b; replace G2 := G2.behind b; replace G3 := G3.behind b; replace G4 := G4.behind b; replace hT := hT.behind b; replace N1 := N1.behind b; replace N2 := N2.behind b; replace N3 := N3.behind b; replace N4 := N4.behind b; replace B := below_both B b; clear b))
    have hne0 : w.heap.size ≠ g4 := by omega
    have hne2 : v2.heap.size ≠ g4 := by omega
    have hne3 : g3 ≠ g4 := by omega
    clear c00 c01 c02 c10 c11 c12 c40 c41 c42 hT G1 N1 hR1 hQ1 H4
    replace N2 := N2.setD (j := 0) G4 (.bool false)
    replace N3 := N3.setD (j := 0) G4 (.bool false)
    replace N4 := N4.setD (j := 0) G4 (.bool false)
    replace G0 := G0.put (p := ⟨g4, 0, none⟩) hne0 (.bool false)
    replace G2 := G2.put (p := ⟨g4, 0, none⟩) hne2 (.bool false)
    replace G3 := G3.put (p := ⟨g4, 0, none⟩) hne3 (.bool false)
    replace B := B.setCell (p := ⟨g4, 0, none⟩) (by show w.heap.size ≤ g4; omega) (.bool false)
    have c40 := G4.cell (i := 0) rfl
    have f40 := G4.f 0
    replace G4 : Cs _ g4 #[.bool false, .slice a4 m4 k4, .int .i64 x4] 24 := G4.set 0 (.bool false)
    go_upto_region 10 with (fail)
    clear c40 f40
    generalize (y3.setCell ⟨g4, 0, none⟩ (.bool false)) = W9 at N2 N3 N4 G0 G2 G3 G4 B ⊢
    clear hne0 hne2 hne3 hl2 hl3 hg4 hxor
    have c00 := G0.cell (i := 0) rfl
    have c01 := G0.cell (i := 1) rfl
    have c02 := G0.cell (i := 2) rfl
    have c20 := G2.cell (i := 0) rfl
    have c21 := G2.cell (i := 1) rfl
    have c22 := G2.cell (i := 2) rfl
    have c40 := G4.cell (i := 0) rfl
    have c41 := G4.cell (i := 1) rfl
    have c42 := G4.cell (i := 2) rfl
    go_wp2_with fail
    refine (lis N2 N4 hR2.out hQ2.out H5.out).mono ?_
    rintro e y4 ⟨rfl, b⟩
    clear c00 c01 c02 c20 c21 c22 c40 c41 c42 hR2 hQ2 H5 N2 N4 G0 G2 G4
    replace N3 := N3.behind b
    replace G3 := G3.behind b
    replace B := below_both B b
    clear b
    have hp : 0 < y4.heap.size := Nat.lt_of_le_of_lt (Nat.zero_le _) G3.lt
    by_cases hE : expB E = true
    · obtain ⟨hE1, hE2⟩ := expB_iff.1 hE
      have R5 := Lib.hid (show outD (tld (decide (z < 0)) z.natAbs E) = ⟨s3, n3, x3⟩ by have := R3.out; rwa [if_pos hE] at this)
      have Q5 := Lib.hid (show outE (tld (decide (z < 0)) z.natAbs E) = q3 by have := Q3.out; rwa [if_pos hE] at this)
      clear R3 Q3 hE
      have hEd1 : decide (E < -16384) = false := decide_eq_false (by omega)
      have hEd2 : decide (16384 < E) = false := decide_eq_false (by omega)
      obtain ⟨u, hu, hu0, hu1, hul⟩ : ∃ u : Int, u.natAbs = z.natAbs ∧ 0 ≤ u ∧ u < 18446744073709551616 ∧ (if z < 0 then IntKind.u64.wrap (-IntKind.u64.wrap z) else IntKind.u64.wrap z) = u := ⟨_, by rw [IntKind.wrap_u64, IntKind.wrap_u64]; split <;> omega, by rw [IntKind.wrap_u64, IntKind.wrap_u64]; split <;> omega, by rw [IntKind.wrap_u64, IntKind.wrap_u64]; split <;> omega, rfl⟩
      have HU := Lib.hid hu
      clear hu
      by_cases hz : z < 0
      · rw [if_pos hz] at hul
        have hzd : decide (z < 0) = true := decide_eq_true hz
        have R6 := Lib.hid (show outD (tld true z.natAbs E) = ⟨s3, n3, x3⟩ by rw [← hzd]; exact R5.out)
        have Q6 := Lib.hid (show outE (tld true z.natAbs E) = q3 by rw [← hzd]; exact Q5.out)
        clear R5 Q5
        go_wp2_with fail
        refine (word_calls _ hu0 hu1 _).mono ?_
        rintro e y5 ⟨uw, rfl, rw5, b⟩
        rw [HU.out] at rw5
        replace N3 := N3.behind b
        replace G3 := G3.behind b
        replace B := below_both B b
        clear b
        go_wp2_with fail
        refine (ltold (s := true) True (fun _ => ⟨by omega, by omega⟩) rw5 (by omega) (by omega) (by omega)).mono ?_
        rintro e y6 ⟨a5, m5, k5, s5, n5, x5, q5, rfl, N5, b, -, hR⟩
        have R7 := Lib.hid (hR trivial)
        clear hR rw5 HU
        obtain ⟨bx, G5, -⟩ := hbs y6 s5 a5 m5 k5 x5 _ rfl
        replace N3 := (N3.behind b).behind bx
        replace G3 := (G3.behind b).behind bx
        replace N5 := N5.behind bx
        replace B := below_both (below_both B b) bx
        clear b bx
        by_cases hf : fits ⟨s5, n5, x5⟩ = true
        · have hq5 : q5 = true := by rw [R7.out.2, hf]
          have hq3 : q3 = 0 := by rw [← Q6.out, R7.out.1, outE, if_pos hf]
          have e5 := R6.out
          rw [R7.out.1, outD, if_pos hf] at e5
          have hl := (fits_iff.1 hf).2.2
          have HL := Lib.hid (show (digs 18446744073709551616 n5).length ≤ 9223372036854775806 by dsimp only at hl; omega)
          clear R6 Q6 R7 hf hl
          simp only [Dn.mk.injEq] at e5
          obtain ⟨rfl, rfl, rfl⟩ := e5
          subst hq5 hq3
          have c30 := G3.cell (i := 0) rfl
          have c31 := G3.cell (i := 1) rfl
          have c32 := G3.cell (i := 2) rfl
          have c50 := G5.cell (i := 0) rfl
          have c51 := G5.cell (i := 1) rfl
          have c52 := G5.cell (i := 2) rfl
          go_wp2_with fail
          refine (lsame N3 N5 HL.out).mono ?_
          rintro e y7 ⟨rfl, b⟩
          replace B := below_both B b
          go_wp2
          go_ret
          exact ⟨rfl, B⟩
        · have hq5 : q5 = false := by rw [R7.out.2]; simpa using hf
          have hq3 : q3 = 4 := by rw [← Q6.out, R7.out.1, outE, if_neg hf]
          clear R6 Q6 R7 hf
          subst hq5 hq3
          go_wp2
          go_ret
          exact ⟨rfl, B⟩
      · rw [if_neg hz] at hul
        have hzd : decide (z < 0) = false := decide_eq_false hz
        have huz : z = u := by rw [← hul, IntKind.wrap_u64]; omega
        subst huz
        have R6 := Lib.hid (show outD (tld false z.natAbs E) = ⟨s3, n3, x3⟩ by rw [← hzd]; exact R5.out)
        have Q6 := Lib.hid (show outE (tld false z.natAbs E) = q3 by rw [← hzd]; exact Q5.out)
        clear R5 Q5
        go_wp2_with fail
        refine (word_calls _ hu0 hu1 _).mono ?_
        rintro e y5 ⟨uw, rfl, rw5, b⟩
        replace N3 := N3.behind b
        replace G3 := G3.behind b
        replace B := below_both B b
        clear b
        go_wp2_with fail
        refine (ltold (s := false) True (fun _ => ⟨by omega, by omega⟩) rw5 (by omega) (by omega) (by omega)).mono ?_
        rintro e y6 ⟨a5, m5, k5, s5, n5, x5, q5, rfl, N5, b, -, hR⟩
        have R7 := Lib.hid (hR trivial)
        clear hR rw5 HU
        obtain ⟨bx, G5, -⟩ := hbs y6 s5 a5 m5 k5 x5 _ rfl
        replace N3 := (N3.behind b).behind bx
        replace G3 := (G3.behind b).behind bx
        replace N5 := N5.behind bx
        replace B := below_both (below_both B b) bx
        clear b bx
        by_cases hf : fits ⟨s5, n5, x5⟩ = true
        · have hq5 : q5 = true := by rw [R7.out.2, hf]
          have hq3 : q3 = 0 := by rw [← Q6.out, R7.out.1, outE, if_pos hf]
          have e5 := R6.out
          rw [R7.out.1, outD, if_pos hf] at e5
          have hl := (fits_iff.1 hf).2.2
          have HL := Lib.hid (show (digs 18446744073709551616 n5).length ≤ 9223372036854775806 by dsimp only at hl; omega)
          clear R6 Q6 R7 hf hl
          simp only [Dn.mk.injEq] at e5
          obtain ⟨rfl, rfl, rfl⟩ := e5
          subst hq5 hq3
          have c30 := G3.cell (i := 0) rfl
          have c31 := G3.cell (i := 1) rfl
          have c32 := G3.cell (i := 2) rfl
          have c50 := G5.cell (i := 0) rfl
          have c51 := G5.cell (i := 1) rfl
          have c52 := G5.cell (i := 2) rfl
          go_wp2_with fail
          refine (lsame N3 N5 HL.out).mono ?_
          rintro e y7 ⟨rfl, b⟩
          replace B := below_both B b
          go_wp2
          go_ret
          exact ⟨rfl, B⟩
        · have hq5 : q5 = false := by rw [R7.out.2]; simpa using hf
          have hq3 : q3 = 4 := by rw [← Q6.out, R7.out.1, outE, if_neg hf]
          clear R6 Q6 R7 hf
          subst hq5 hq3
          go_wp2
          go_ret
          exact ⟨rfl, B⟩
    · have hE' : expB E = false := by simpa using hE
      have e3 := R3.out
      have e4 := Q3.out
      rw [if_neg hE] at e3 e4
      obtain ⟨rfl, rfl, rfl⟩ := dn_eq e3.symm
      obtain rfl : q3 = 4 := e4.symm
      clear R3 Q3 e3 e4
      rw [expB_iff] at hE
      clear hE'
      by_cases hE1 : E < -16384
      · have hEd1 : decide (E < -16384) = true := decide_eq_true hE1
        clear hE
        have c30 := G3.cell (i := 0) rfl
        have c31 := G3.cell (i := 1) rfl
        have c32 := G3.cell (i := 2) rfl
        go_wp2_with fail
        refine (lsame N3 (new_nil (n := 0) hp) digs0).mono ?_
        rintro e y5 ⟨rfl, b⟩
        replace B := below_both B b
        go_wp2
        go_ret
        exact ⟨rfl, B⟩
      · have hEd1 : decide (E < -16384) = false := decide_eq_false hE1
        have hEd2 : decide (16384 < E) = true := decide_eq_true (by omega)
        clear hE hE1
        have c30 := G3.cell (i := 0) rfl
        have c31 := G3.cell (i := 1) rfl
        have c32 := G3.cell (i := 2) rfl
        go_wp2_with fail
        refine (lsame N3 (new_nil (n := 0) hp) digs0).mono ?_
        rintro e y5 ⟨rfl, b⟩
        replace B := below_both B b
        go_wp2
        go_ret
        exact ⟨rfl, B⟩
end Go.Proofs.YthipbonhkcjcfaaDoor
