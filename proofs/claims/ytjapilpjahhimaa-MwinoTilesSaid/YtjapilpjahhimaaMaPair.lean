/- mat: pairwise, with fadd.Add. -/
import Derived.Test.YtjapilpjahhimaaMaNum
import Derived.Test.YtjapilpjahhimaaVeScal
import Derived.BigRegion
namespace Go.Proofs.Ytjapilpjahhimaa
open Go.RowKit Go.Shelf
theorem cell_off {W : World} {g o d k : Nat} {u v : Value} (h : W.cell? ⟨g, o, none⟩ = some v) (hne : g ≠ d) : (W.setCell ⟨d, k, none⟩ u).cell? ⟨g, o, none⟩ = some v :=
  (World.cell?_of_block (w := W) (Below.heap_setCell W ⟨d, k, none⟩ u g hne)).trans h
theorem new_nil {n : Nat} {w W : World} (b : Nat) (hp : 0 < w.heap.size) (h : Below b w W) : New n W (.slice none 0 0) [] :=
  ⟨0, .inl ⟨⟨_, _, rfl⟩, rfl⟩, Nat.lt_of_lt_of_le hp h.size, .inl rfl⟩
set_option maxRecDepth 100000 in
set_option maxHeartbeats 16000000 in
theorem mat_pairAdd {R C R' C' : Int} {a a' : Option Addr} {m m' cap cap' : Nat} {xs ys : List Nat} {w : World} (hA : Arg w (.slice a m cap) xs) (hA' : Arg w (.slice a' m' cap') ys) (hx : Low 18446744073709551616 xs) (hy : Low 18446744073709551616 ys) :
    Calls Try.prog 58 #[.agg #[.int .i64 R, .int .i64 C, .slice a m cap, .int .i64 R', .int .i64 C', .slice a' m' cap'], .func (.func 70) #[] #[]] w fun e W' => ∃ R2 C2 b n c, e = .returned (.tuple #[.agg #[.int .i64 R2, .int .i64 C2, .slice b n c], .int .i64 (tellV (pairV plusU xs ys) (pairF R C m xs R' C' m' ys))]) ∧ New w.heap.size W' (.slice b n c) (if tellV (pairV plusU xs ys) (pairF R C m xs R' C' m' ys) = 0 then pairV plusU xs ys else []) ∧ (tellV (pairV plusU xs ys) (pairF R C m xs R' C' m' ys) = 0 → R2 = R ∧ C2 = C) ∧ Below w.heap.size w W' := by
  have h1 := fun (W : World) (h : Below w.heap.size w W) => shape_finite (R := R) (C := C) (hA.behind h) hx
  have h2 := fun (W : World) (h : Below w.heap.size w W) => shape_finite (R := R') (C := C') (hA'.behind h) hy
  have HWAY := firstE_ways (finM R C m xs) (finM R' C' m' ys) (sidesE R C R' C')
  have hpos : 0 < w.heap.size := by obtain ⟨S, hS, _⟩ := hA; omega
  obtain ⟨bx, G⟩ := mbox w #[.int .i64 R, .int .i64 C, .slice a m cap, .int .i64 R', .int .i64 C', .slice a' m' cap'] 71 _ rfl
  have b2 := bel_new (w.alloc (.cells #[.int .i64 R, .int .i64 C, .slice a m cap, .int .i64 R', .int .i64 C', .slice a' m' cap'] 71)) (.cells #[.int .i64 0, .int .i64 0, .slice none 0 0] 24)
  have H1 := Lib.hid h1
  have H2 := Lib.hid h2
  clear h1 h2
  have x0 : ∀ w : World, (Instr.index 71 (.agg #[.int .i64 R, .int .i64 C, .slice a m cap, .int .i64 R', .int .i64 C', .slice a' m' cap']) (.int .i64 0)).run Try.prog w = .ok (.agg #[.int .i64 R, .int .i64 C, .slice a m cap]) w := fun _ => by kernel_rfl
  have x1 : ∀ w : World, (Instr.index 71 (.agg #[.int .i64 R, .int .i64 C, .slice a m cap, .int .i64 R', .int .i64 C', .slice a' m' cap']) (.int .i64 1)).run Try.prog w = .ok (.agg #[.int .i64 R', .int .i64 C', .slice a' m' cap']) w := fun _ => by kernel_rfl
  have k0 := G.cell (i := 0) rfl
  have k1 := G.cell (i := 1) rfl
  have k2 := G.cell (i := 2) rfl
  have k3 := G.cell (i := 3) rfl
  have k4 := G.cell (i := 4) rfl
  have k5 := G.cell (i := 5) rfl
  generalize hea : finM R C m xs = ea at *
  generalize heb : finM R' C' m' ys = eb at *
  have HE := Lib.hid (And.intro hea heb)
  have HPF := Lib.hid (show pairF R C m xs R' C' m' ys = firstE ea eb (sidesE R C R' C') by unfold pairF; rw [hea, heb])
  clear hea heb
  have HZ : Hid (∀ E, E = tellV (pairV plusU xs ys) (pairF R C m xs R' C' m' ys) → E ≠ 0 → (if E = 0 then pairV plusU xs ys else []) = []) := Lib.hid (fun E _ h => if_neg h)
  have HY : Hid (∀ E, E = 0 → (if E = (0 : Int) then pairV plusU xs ys else []) = pairV plusU xs ys) := Lib.hid (fun E h => if_pos h)
  have HEE := Lib.hid (show tellV (pairV plusU xs ys) (pairF R C m xs R' C' m' ys) = tellV (pairV plusU xs ys) (pairF R C m xs R' C' m' ys) from rfl)
  obtain ⟨E, hE⟩ : ∃ E, E = tellV (pairV plusU xs ys) (pairF R C m xs R' C' m' ys) := ⟨_, rfl⟩
  rw [← hE]
  have HED := Lib.hid hE
  obtain ⟨Z, hZ⟩ : ∃ Z, Z = if E = 0 then pairV plusU xs ys else [] := ⟨_, rfl⟩
  rw [← hZ]
  have HZD := Lib.hid hZ
  clear hE hZ HZ HY HEE
  have B0 := below_both bx b2
  replace G := G.behind b2
  have G2 : Ms ((w.alloc (.cells #[.int .i64 R, .int .i64 C, .slice a m cap, .int .i64 R', .int .i64 C', .slice a' m' cap'] 71)).alloc (.cells #[.int .i64 0, .int .i64 0, .slice none 0 0] 24)) (w.heap.size + 1) #[.int .i64 0, .int .i64 0, .slice none 0 0] 24 := by
    have := World.alloc_heap_new (w.alloc (.cells #[.int .i64 R, .int .i64 C, .slice a m cap, .int .i64 R', .int .i64 C', .slice a' m' cap'] 71)) (.cells #[.int .i64 0, .int .i64 0, .slice none 0 0] 24)
    rw [World.size_alloc] at this
    exact this
  clear b2
  go_enter Try.func58, Try.ntmps58
  go_wp2
  generalize (w.alloc (.cells #[.int .i64 R, .int .i64 C, .slice a m cap, .int .i64 R', .int .i64 C', .slice a' m' cap'] 71)).alloc (.cells #[.int .i64 0, .int .i64 0, .slice none 0 0] 24) = W0 at *
  go_loopw [15] (fun i wr => ∃ (k : Nat) (z : Int), k ≤ 2 ∧ z = k ∧ i = .int .i64 z ∧ Hid (1 ≤ k → ea = 0) ∧ Hid (2 ≤ k → eb = 0) ∧ Below W0.heap.size W0 wr) (fun i _ => 2 - (intOf i).toNat)
  case atStart => exact ⟨0, 0, by omega, rfl, rfl, Lib.hid (fun h => absurd h (by decide)), Lib.hid (fun h => absurd h (by decide)), Below.refl _ _⟩
  case round =>
    obtain ⟨k, z, hk, hz, rfl, HE1, HE2, hB⟩ := hrel
    have hBw := below_both B0 hB
    rcases (show k = 0 ∨ k = 1 ∨ k = 2 by omega) with rfl | rfl | rfl
    · obtain rfl : z = 0 := hz
      by_cases he : ea = 0
      · have HE := Lib.hid he
        have d : (ea != 0) = false := by simp [he]
        clear he
        go_wp2_with fail
        have bA := bel_new wr (.cells #[.int .i64 R, .int .i64 C, .slice a m cap] 24)
        refine (H1.out _ (below_both hBw bA)).mono ?_
        rintro e w2 ⟨rfl, b2⟩
        go_wp2
        go_roundw
        case rel => exact ⟨1, 1, by omega, rfl, rfl, Lib.hid (fun _ => HE.out), Lib.hid (fun h => absurd h (by decide)), below_both hB (below_both bA b2)⟩
        case measure => simp [intOf]
      · have d : (ea != 0) = true := bne_iff_ne.2 he
        have HT : Hid (E = ea ∧ ea ≠ 0) := Lib.hid ⟨by
          rw [HED.out, HPF.out]
          rcases HWAY with ⟨_, h⟩ | ⟨h, _⟩ | ⟨h, _⟩
          · rw [h]; unfold tellV; rw [if_pos he]
          · exact absurd h he
          · exact absurd h he, he⟩
        clear he
        go_wp2_with fail
        have bA := bel_new wr (.cells #[.int .i64 R, .int .i64 C, .slice a m cap] 24)
        refine (H1.out _ (below_both hBw bA)).mono ?_
        rintro e w2 ⟨rfl, b2⟩
        have hB2 := below_both hB (below_both bA b2)
        have G4 := G2.behind hB2
        have g0 := G4.cell (i := 0) rfl
        have g1 := G4.cell (i := 1) rfl
        have g2 := G4.cell (i := 2) rfl
        have f0 := G4.f 0
        have f1 := G4.f 1
        have f2 := G4.f 2
        have HB2 := Lib.hid (below_both B0 hB2)
        go_wp2
        exact bodyPost_ret (v := .tuple #[.agg #[.int .i64 0, .int .i64 0, .slice none 0 0], .int .i64 ea]) (by simp [results, Try.results58, go_sem, g0, g1, g2]) rfl
          ⟨0, 0, none, 0, 0, by rw [HT.out.1], by rw [HZD.out, if_neg (by rw [HT.out.1]; exact HT.out.2)]; exact new_nil _ hpos (HB2.out.put3 (by omega) _ _ _), fun h => absurd (HT.out.1.symm.trans h) HT.out.2, HB2.out.put3 (by omega) _ _ _⟩
    · obtain rfl : z = 1 := hz
      have ha0 := HE1.out (by omega)
      by_cases he : eb = 0
      · have HE := Lib.hid he
        have HEA := Lib.hid ha0
        have d : (eb != 0) = false := by simp [he]
        clear he ha0
        go_wp2_with fail
        have bA := bel_new wr (.cells #[.int .i64 R', .int .i64 C', .slice a' m' cap'] 24)
        refine (H2.out _ (below_both hBw bA)).mono ?_
        rintro e w2 ⟨rfl, b2⟩
        go_wp2
        go_roundw
        case rel => exact ⟨2, 2, by omega, rfl, rfl, Lib.hid (fun _ => HEA.out), Lib.hid (fun _ => HE.out), below_both hB (below_both bA b2)⟩
        case measure => simp [intOf]
      · have d : (eb != 0) = true := bne_iff_ne.2 he
        have HT : Hid (E = eb ∧ eb ≠ 0) := Lib.hid ⟨by
          rw [HED.out, HPF.out]
          rcases HWAY with ⟨h, _⟩ | ⟨_, _, h⟩ | ⟨_, h, _⟩
          · exact absurd ha0 h
          · rw [h]; unfold tellV; rw [if_pos he]
          · exact absurd h he, he⟩
        clear he ha0
        go_wp2_with fail
        have bA := bel_new wr (.cells #[.int .i64 R', .int .i64 C', .slice a' m' cap'] 24)
        refine (H2.out _ (below_both hBw bA)).mono ?_
        rintro e w2 ⟨rfl, b2⟩
        have hB2 := below_both hB (below_both bA b2)
        have G4 := G2.behind hB2
        have g0 := G4.cell (i := 0) rfl
        have g1 := G4.cell (i := 1) rfl
        have g2 := G4.cell (i := 2) rfl
        have f0 := G4.f 0
        have f1 := G4.f 1
        have f2 := G4.f 2
        have HB2 := Lib.hid (below_both B0 hB2)
        go_wp2
        exact bodyPost_ret (v := .tuple #[.agg #[.int .i64 0, .int .i64 0, .slice none 0 0], .int .i64 eb]) (by simp [results, Try.results58, go_sem, g0, g1, g2]) rfl
          ⟨0, 0, none, 0, 0, by rw [HT.out.1], by rw [HZD.out, if_neg (by rw [HT.out.1]; exact HT.out.2)]; exact new_nil _ hpos (HB2.out.put3 (by omega) _ _ _), fun h => absurd (HT.out.1.symm.trans h) HT.out.2, HB2.out.put3 (by omega) _ _ _⟩
    · obtain rfl : z = 2 := hz
      have ha0 := HE1.out (by omega)
      have hb0 := HE2.out (by omega)
      have G := G.behind hB
      have k0 := G.cell (i := 0) rfl
      have k1 := G.cell (i := 1) rfl
      have k2 := G.cell (i := 2) rfl
      have k3 := G.cell (i := 3) rfl
      have k4 := G.cell (i := 4) rfl
      have k5 := G.cell (i := 5) rfl
      have p0 := fun o => (G.behind (bel_new wr o)).cell (i := 0) rfl
      have q0 := fun o o' => ((G.behind (bel_new wr o)).behind (bel_new _ o')).cell (i := 0) rfl
      have p1 := fun o => (G.behind (bel_new wr o)).cell (i := 1) rfl
      have q1 := fun o o' => ((G.behind (bel_new wr o)).behind (bel_new _ o')).cell (i := 1) rfl
      have p2 := fun o => (G.behind (bel_new wr o)).cell (i := 2) rfl
      have q2 := fun o o' => ((G.behind (bel_new wr o)).behind (bel_new _ o')).cell (i := 2) rfl
      have p3 := fun o => (G.behind (bel_new wr o)).cell (i := 3) rfl
      have q3 := fun o o' => ((G.behind (bel_new wr o)).behind (bel_new _ o')).cell (i := 3) rfl
      have p4 := fun o => (G.behind (bel_new wr o)).cell (i := 4) rfl
      have q4 := fun o o' => ((G.behind (bel_new wr o)).behind (bel_new _ o')).cell (i := 4) rfl
      have p5 := fun o => (G.behind (bel_new wr o)).cell (i := 5) rfl
      have q5 := fun o o' => ((G.behind (bel_new wr o)).behind (bel_new _ o')).cell (i := 5) rfl
      go_upto_region 8 with (fail)
      go_cut [9, 10] from 25 to 28 (fun p q wx => ∃ g1 g2, p = .pointer (some ⟨g1, 0, none⟩) ∧ q = .pointer (some ⟨g2, 0, none⟩) ∧ Ms wx g1 #[.int .i64 R, .int .i64 C, .slice a m cap] 24 ∧ Ms wx g2 #[.int .i64 R', .int .i64 C', .slice a' m' cap'] 24 ∧ Below wr.heap.size wr wx)
      case first =>
        go_region
        all_goals
          go_wp2_with fail
          go_meet
        · obtain ⟨hb, h1, h2, _⟩ := vboxm wr #[.int .i64 R, .int .i64 C, .slice a m cap] #[.int .i64 R', .int .i64 C', .slice a' m' cap'] 24 24 _ rfl
          exact ⟨_, _, rfl, rfl, h1, h2, hb.drew⟩
        · obtain ⟨hb, h1, h2, _⟩ := vboxm wr #[.int .i64 R', .int .i64 C', .slice a' m' cap'] #[.int .i64 R, .int .i64 C, .slice a m cap] 24 24 _ rfl
          exact ⟨_, _, rfl, rfl, h2, h1, hb.drew⟩
      clear p0 p1 p2 p3 p4 p5 q0 q1 q2 q3 q4 q5 k0 k1 k2 k3 k4 k5 x0 x1
      obtain ⟨gA, gB, rfl, rfl, GA, GB, hb3⟩ := hcut
      replace hB := below_both hB hb3
      replace hBw := below_both B0 hB
      have a0 := GA.cell (i := 0) rfl
      have a1 := GA.cell (i := 1) rfl
      have a2 := GA.cell (i := 2) rfl
      have b0 := GB.cell (i := 0) rfl
      have b1 := GB.cell (i := 1) rfl
      have b2 := GB.cell (i := 2) rfl
      have HA0 := Lib.hid (And.intro ha0 hb0)
      clear ha0 hb0 G hb3 bx
      have hF3 : Hid (firstE ea eb (sidesE R C R' C') = sidesE R C R' C') := Lib.hid (by
        rcases HWAY with ⟨h, _⟩ | ⟨_, h, _⟩ | ⟨_, _, h⟩
        · exact absurd HA0.out.1 h
        · exact absurd HA0.out.2 h
        · exact h)
      by_cases hRC : R = R' ∧ C = C'
      · obtain ⟨rfl, rfl⟩ := hRC
        have hm := (finM_ok (HE.out.1.trans HA0.out.1)).1
        have hm' := (finM_ok (HE.out.2.trans HA0.out.2)).1
        obtain ⟨q1, q2, q3, q4, q5⟩ := mayM_iff.1 hm
        obtain ⟨_, _, _, _, q6⟩ := mayM_iff.1 hm'
        have hmm : m' = m := by omega
        have hm0 : 0 < m := by have := Int.mul_pos (show 0 < R by omega) (show 0 < C by omega); omega
        have hm1 : m ≤ 4096 := by have := Int.mul_le_mul q2 q4 (by omega) (by decide); omega
        subst hmm
        have hxl : m' = xs.length := by
          obtain ⟨a', c', e⟩ := hA.slice
          simp only [Value.slice.injEq] at e
          omega
        have HF0 : Hid (E = tellV (pairV plusU xs ys) 0) := Lib.hid (by
          rw [HED.out, HPF.out, hF3.out]
          unfold sidesE
          rw [if_neg (by simp)])
        have HC := Lib.hid (mat_copied (R := R) (C := C) (hA.behind hBw) (by omega))
        obtain ⟨T, a9, c9, hT, e9, _, HY⟩ := hA'.opened
        simp only [Value.slice.injEq] at e9
        obtain ⟨rfl, hyl, rfl⟩ := e9
        rw [← hyl] at HY
        have HXL := Lib.hid (fun k => lim_lt hx (by decide : 0 < 18446744073709551616) k)
        have HYL := Lib.hid (fun k => lim_lt hy (by decide : 0 < 18446744073709551616) k)
        obtain ⟨f, hf⟩ : ∃ f : Nat → Nat, f = fun k => plusU (lim xs k) (lim ys k) := ⟨_, rfl⟩
        have HFD := Lib.hid hf
        have HPV : Hid (pairV plusU xs ys = upd f xs m') := Lib.hid (by rw [hxl, upd_all, hf]; rfl)
        have HXN := Lib.hid hxl
        have HLW : Hid (Low 18446744073709551616 (pairV plusU xs ys)) := Lib.hid (rowV_low fun k _ => plusU_lt (by have := HXL.out k; omega) (by have := HYL.out k; omega))
        have HMM := Lib.hid (And.intro hm0 hm1)
        have d1 : (R != R) = false := by simp
        have d2 : (C != C) = false := by simp
        have hm4 : (m' : Int) ≤ 4096 := by omega
        clear hm hm' q1 q2 q3 q4 q5 q6 hxl hyl hf hA hA' hx hy H1 H2 hF3 HWAY HE HPF hm0 hm1
        go_wp2_with fail
        refine HC.out.mono ?_
        rintro e w3 ⟨o8, c8, rfl, ho, b8⟩
        obtain ⟨d, c7, e7, hd1, hd2⟩ := ho.form (by rw [zn_length, ← HXN.out]; exact HMM.out.1)
        rw [zn_length, ← HXN.out] at e7
        simp only [Value.slice.injEq] at e7
        obtain ⟨rfl, -, rfl⟩ := e7
        have HGO : Hid (Ms (w3.alloc (.cells #[.int .i64 R, .int .i64 C, .slice (some ⟨d, 0, none⟩) m' c8] 24)) w3.heap.size #[.int .i64 R, .int .i64 C, .slice (some ⟨d, 0, none⟩) m' c8] 24) := Lib.hid (World.alloc_heap_new _ _)
        have HHO := Lib.hid (ho.alloc (.cells #[.int .i64 R, .int .i64 C, .slice (some ⟨d, 0, none⟩) m' c8] 24))
        have HB4 := Lib.hid (b8.alloc b8.size (.cells #[.int .i64 R, .int .i64 C, .slice (some ⟨d, 0, none⟩) m' c8] 24))
        obtain ⟨gO, hgO⟩ : ∃ gO, gO = w3.heap.size := ⟨_, rfl⟩
        rw [← hgO] at HGO
        have HGD : Hid (gO ≠ d ∧ wc.heap.size ≤ d ∧ wc.heap.size ≤ gO) := Lib.hid ⟨by omega, hd1, by have := b8.size; omega⟩
        go_wp2
        rw [← hgO]
        clear hgO hd1 hd2 b8 ho HC
        generalize w3.alloc (.cells #[.int .i64 R, .int .i64 C, .slice (some ⟨d, 0, none⟩) m' c8] 24) = w4 at *
        go_loopw [47] (fun i wr => ∃ k : Nat, k ≤ m' ∧ i = .int .i64 k ∧ OwnK .u64 49 wc.heap.size wr (.slice (some ⟨d, 0, none⟩) m' c8) (zn (upd f xs k)) ∧ Ms wr gO #[.int .i64 R, .int .i64 C, .slice (some ⟨d, 0, none⟩) m' c8] 24 ∧ Below wc.heap.size wc wr) (fun i _ => m' - (intOf i).toNat)
        case atStart => exact ⟨0, Nat.zero_le _, rfl, by rw [upd_zero]; exact HHO.out, HGO.out, HB4.out⟩
        case round =>
          obtain ⟨k, hk, rfl, ho, hGO, hB5⟩ := hrel
          have hBr := below_both hBw hB5
          by_cases hlt : k < m'
          · have hxn := HXN.out
            have ko := ho.cell (j := k) (by rw [zn_length, upd_length]; omega)
            rw [zn_at (by rw [upd_length]; omega), upd_at (by omega), if_neg (by omega)] at ko
            have kf := ho.frozen k
            obtain ⟨oy, rfl, ky⟩ := HY.out wr hBr k hlt
            have HS : Hid (zn (upd f xs (k + 1)) = (zn (upd f xs k)).set k (f k : Int)) := Lib.hid (by rw [upd_succ, zn_set])
            have hfk : f k = plusU (lim xs k) (lim ys k) := by rw [HFD.out]
            have hadd := fun w => fadd_add (a := lim xs k) (b := lim ys k) (mode := 0) (w := w) (by have := HXL.out k; omega) (by have := HYL.out k; omega)
            rw [show (radd (lim xs k) (lim ys k) 0).1 = f k from hfk.symm] at hadd
            have HAD := Lib.hid hadd
            have hTw : T < wr.heap.size := Nat.lt_of_lt_of_le hT hBr.size
            have hgB : gB < wr.heap.size := Nat.lt_of_lt_of_le GB.lt hB5.size
            have go2 : wr.cell? ⟨gO, 2, none⟩ = some (.slice (some ⟨d, 0, none⟩) m' c8) := hGO.cell (i := 2) rfl
            have gb2 : wr.cell? ⟨gB, 2, none⟩ = some (.slice (some ⟨T, oy, none⟩) m' cap') := (GB.behind hB5).cell (i := 2) rfl
            have hGr := hGO.lt
            have hdw : d < wr.heap.size := (World.ownsRow.lt ho d rfl).2
            clear hxn hadd hfk
            generalize lim xs k = x at *
            generalize lim ys k = y at *
            generalize f k = z at *
            have n1 : gO ≠ d := HGD.out.1
            have n2 : gB ≠ d := by have := GB.lt; have := HGD.out.2.1; omega
            have n3 : T ≠ d := by have := hBw.size; have := HGD.out.2.1; omega
            have Br : Below wr.heap.size wr wr := Below.refl _ _
            go_wp2_with fail
            go_region_held3 (fun w' => w'.cell? ⟨gO, 2, none⟩ = some (.slice (some ⟨d, 0, none⟩) m' c8) ∧ w'.cell? ⟨gB, 2, none⟩ = some (.slice (some ⟨T, oy, none⟩) m' cap') ∧ w'.cell? ⟨T, oy + k, none⟩ = some (.int .u64 (y : Int)))
              (first | with_reducible exact ⟨(Br.cell (p := ⟨gO, 2, none⟩) hGr).trans go2, (Br.cell (p := ⟨gB, 2, none⟩) hgB).trans gb2, (Br.cell (p := ⟨T, oy + k, none⟩) hTw).trans ky⟩ | with_reducible exact ⟨(Br.drew.cell (p := ⟨gO, 2, none⟩) hGr).trans go2, (Br.drew.cell (p := ⟨gB, 2, none⟩) hgB).trans gb2, (Br.drew.cell (p := ⟨T, oy + k, none⟩) hTw).trans ky⟩ | with_reducible exact ⟨cell_off ((Br.cell (p := ⟨gO, 2, none⟩) hGr).trans go2) n1, cell_off ((Br.cell (p := ⟨gB, 2, none⟩) hgB).trans gb2) n2, cell_off ((Br.cell (p := ⟨T, oy + k, none⟩) hTw).trans ky) n3⟩ | (refine ⟨?_, ?_, ?_⟩ <;> go_keep))
              (first
                | (go_at_call 70; (with_reducible refine (HAD.out _).mono ?_); rintro e v4 ⟨rfl, bz⟩; replace Br : Below wr.heap.size wr v4 := (by first | with_reducible exact below_both Br bz | with_reducible exact below_both Br.drew bz); clear bz; have ho4 := ho.below Br; have ko4 := (Br.cell (p := ⟨d, k, none⟩) hdw).trans ko; have kf4 := ho4.frozen k))
            clear go2 gb2 ky ko kf
            go_wp2
            go_roundw
            case rel => exact ⟨k + 1, by omega, by simp, by rw [HS.out]; exact ho4.set k _, (hGO.behind Br).put (show gO ≠ (⟨d, k, none⟩ : Addr).block from n1) _, (below_both hB5 Br).setCell (p := ⟨d, k, none⟩) HGD.out.2.1 _⟩
            case measure => simp [intOf]; omega
          · obtain rfl : k = m' := by omega
            clear hlt
            have hxn := HXN.out
            have ho6 := ho
            rw [show upd f xs k = pairV plusU xs ys from HPV.out.symm] at ho6
            have hWp : 0 < wr.heap.size := Nat.lt_of_lt_of_le hpos hBr.size
            have hNew := new_zn.2 (ho6.new hWp)
            have HNEW : Hid (New wc.heap.size wr (.slice (some ⟨d, 0, none⟩) k c8) (pairV plusU xs ys)) := Lib.hid hNew
            have hln : (pairV plusU xs ys).length = k := by unfold pairV; rw [rowV_length]; exact hxn.symm
            have HT := Lib.hid (mat_told (R := R) (C := C) hNew.arg HLW.out (by rw [hln]; have := HMM.out.2; omega))
            have HWS : Hid (w.heap.size ≤ wc.heap.size ∧ w.heap.size + 1 < wc.heap.size) := Lib.hid ⟨hBw.size, by have := G2.lt; have := hB.size; omega⟩
            have go0 : wr.cell? ⟨gO, 0, none⟩ = some (.int .i64 R) := hGO.cell (i := 0) rfl
            have go1 : wr.cell? ⟨gO, 1, none⟩ = some (.int .i64 C) := hGO.cell (i := 1) rfl
            have go2 : wr.cell? ⟨gO, 2, none⟩ = some (.slice (some ⟨d, 0, none⟩) k c8) := hGO.cell (i := 2) rfl
            have HG2 := Lib.hid ((G2.behind hB).behind hB5)
            have HBR := Lib.hid hBr
            have HTE := Lib.hid (tellV_yes (want := pairV plusU xs ys))
            clear ho ho6 hNew hln hxn hGO hk
            generalize pairV plusU xs ys = ws at *
            go_wp2_with fail
            refine HT.out.mono ?_
            rintro e w9 ⟨hway, b9⟩
            have G4 : Ms w9 (w.heap.size + 1) #[.int .i64 0, .int .i64 0, .slice none 0 0] 24 := HG2.out.behind b9
            have g0 := G4.cell (i := 0) rfl
            have g1 := G4.cell (i := 1) rfl
            have g2 := G4.cell (i := 2) rfl
            have f0 := G4.f 0
            have f1 := G4.f 1
            have f2 := G4.f 2
            have HB9 := Lib.hid (below_both HBR.out b9)
            have HN9 := Lib.hid (HNEW.out.behind b9)
            rcases hway with ⟨hf, rfl⟩ | ⟨hf, rfl⟩
            · have HEZ : Hid (E = 0) := Lib.hid (by rw [HF0.out, HTE.out, hf]; rfl)
              clear hf
              go_wp2
              exact bodyPost_ret (v := .tuple #[.agg #[.int .i64 R, .int .i64 C, .slice (some ⟨d, 0, none⟩) k c8], .int .i64 0]) (by simp [results, Try.results58, go_sem, g0, g1, g2]) rfl
                ⟨R, C, _, _, _, by rw [HEZ.out], by rw [HZD.out, if_pos HEZ.out]; exact (HN9.out.put3 HWS.out.2 _ _ _).lower HWS.out.1, fun _ => ⟨rfl, rfl⟩, HB9.out.put3 (by omega) _ _ _⟩
            · have HEZ : Hid (E = 13) := Lib.hid (by rw [HF0.out, HTE.out, hf]; rfl)
              clear hf
              go_wp2
              exact bodyPost_ret (v := .tuple #[.agg #[.int .i64 0, .int .i64 0, .slice none 0 0], .int .i64 13]) (by simp [results, Try.results58, go_sem, g0, g1, g2]) rfl
                ⟨0, 0, none, 0, 0, by rw [HEZ.out], by rw [HZD.out, if_neg (by rw [HEZ.out]; decide)]; exact new_nil _ hpos (HB9.out.put3 (by omega) _ _ _), fun h => absurd (HEZ.out.symm.trans h) (by decide), HB9.out.put3 (by omega) _ _ _⟩
      · have HT : Hid (E = 11) := Lib.hid (by
          rw [HED.out, HPF.out, hF3.out]
          unfold sidesE tellV
          rw [if_pos (show R ≠ R' ∨ C ≠ C' by
            by_cases h : R = R'
            · exact .inr fun h2 => hRC ⟨h, h2⟩
            · exact .inl h), if_pos (by decide)])
        have hways : R ≠ R' ∨ (R = R' ∧ C ≠ C') := by
          by_cases h : R = R'
          · exact .inr ⟨h, fun h2 => hRC ⟨h, h2⟩⟩
          · exact .inl h
        clear hRC
        have G4 := G2.behind hB
        have g0 := G4.cell (i := 0) rfl
        have g1 := G4.cell (i := 1) rfl
        have g2 := G4.cell (i := 2) rfl
        have f0 := G4.f 0
        have f1 := G4.f 1
        have f2 := G4.f 2
        have HB2 := Lib.hid hBw
        rcases hways with h | ⟨rfl, h⟩
        · have d : (R != R') = true := bne_iff_ne.2 h
          clear h
          go_wp2
          exact bodyPost_ret (v := .tuple #[.agg #[.int .i64 0, .int .i64 0, .slice none 0 0], .int .i64 11]) (by simp [results, Try.results58, go_sem, g0, g1, g2]) rfl
            ⟨0, 0, none, 0, 0, by rw [HT.out], by rw [HZD.out, if_neg (by rw [HT.out]; decide)]; exact new_nil _ hpos (HB2.out.put3 (by omega) _ _ _), fun h => absurd (HT.out.symm.trans h) (by decide), HB2.out.put3 (by omega) _ _ _⟩
        · have d1 : (R != R) = false := by simp
          have d2 : (C != C') = true := bne_iff_ne.2 h
          clear h
          go_wp2
          exact bodyPost_ret (v := .tuple #[.agg #[.int .i64 0, .int .i64 0, .slice none 0 0], .int .i64 11]) (by simp [results, Try.results58, go_sem, g0, g1, g2]) rfl
            ⟨0, 0, none, 0, 0, by rw [HT.out], by rw [HZD.out, if_neg (by rw [HT.out]; decide)]; exact new_nil _ hpos (HB2.out.put3 (by omega) _ _ _), fun h => absurd (HT.out.symm.trans h) (by decide), HB2.out.put3 (by omega) _ _ _⟩
end Go.Proofs.Ytjapilpjahhimaa

/- mat: pairwise, with fadd.Sub. -/
namespace Go.Proofs.Ytjapilpjahhimaa
open Go.RowKit Go.Shelf
set_option maxRecDepth 100000 in
set_option maxHeartbeats 16000000 in
theorem mat_pairSub {R C R' C' : Int} {a a' : Option Addr} {m m' cap cap' : Nat} {xs ys : List Nat} {w : World} (hA : Arg w (.slice a m cap) xs) (hA' : Arg w (.slice a' m' cap') ys) (hx : Low 18446744073709551616 xs) (hy : Low 18446744073709551616 ys) :
    Calls Try.prog 58 #[.agg #[.int .i64 R, .int .i64 C, .slice a m cap, .int .i64 R', .int .i64 C', .slice a' m' cap'], .func (.func 59) #[] #[]] w fun e W' => ∃ R2 C2 b n c, e = .returned (.tuple #[.agg #[.int .i64 R2, .int .i64 C2, .slice b n c], .int .i64 (tellV (pairV minusU xs ys) (pairF R C m xs R' C' m' ys))]) ∧ New w.heap.size W' (.slice b n c) (if tellV (pairV minusU xs ys) (pairF R C m xs R' C' m' ys) = 0 then pairV minusU xs ys else []) ∧ (tellV (pairV minusU xs ys) (pairF R C m xs R' C' m' ys) = 0 → R2 = R ∧ C2 = C) ∧ Below w.heap.size w W' := by
  have h1 := fun (W : World) (h : Below w.heap.size w W) => shape_finite (R := R) (C := C) (hA.behind h) hx
  have h2 := fun (W : World) (h : Below w.heap.size w W) => shape_finite (R := R') (C := C') (hA'.behind h) hy
  have HWAY := firstE_ways (finM R C m xs) (finM R' C' m' ys) (sidesE R C R' C')
  have hpos : 0 < w.heap.size := by obtain ⟨S, hS, _⟩ := hA; omega
  obtain ⟨bx, G⟩ := mbox w #[.int .i64 R, .int .i64 C, .slice a m cap, .int .i64 R', .int .i64 C', .slice a' m' cap'] 71 _ rfl
  have b2 := bel_new (w.alloc (.cells #[.int .i64 R, .int .i64 C, .slice a m cap, .int .i64 R', .int .i64 C', .slice a' m' cap'] 71)) (.cells #[.int .i64 0, .int .i64 0, .slice none 0 0] 24)
  have H1 := Lib.hid h1
  have H2 := Lib.hid h2
  clear h1 h2
  have x0 : ∀ w : World, (Instr.index 71 (.agg #[.int .i64 R, .int .i64 C, .slice a m cap, .int .i64 R', .int .i64 C', .slice a' m' cap']) (.int .i64 0)).run Try.prog w = .ok (.agg #[.int .i64 R, .int .i64 C, .slice a m cap]) w := fun _ => by kernel_rfl
  have x1 : ∀ w : World, (Instr.index 71 (.agg #[.int .i64 R, .int .i64 C, .slice a m cap, .int .i64 R', .int .i64 C', .slice a' m' cap']) (.int .i64 1)).run Try.prog w = .ok (.agg #[.int .i64 R', .int .i64 C', .slice a' m' cap']) w := fun _ => by kernel_rfl
  have k0 := G.cell (i := 0) rfl
  have k1 := G.cell (i := 1) rfl
  have k2 := G.cell (i := 2) rfl
  have k3 := G.cell (i := 3) rfl
  have k4 := G.cell (i := 4) rfl
  have k5 := G.cell (i := 5) rfl
  generalize hea : finM R C m xs = ea at *
  generalize heb : finM R' C' m' ys = eb at *
  have HE := Lib.hid (And.intro hea heb)
  have HPF := Lib.hid (show pairF R C m xs R' C' m' ys = firstE ea eb (sidesE R C R' C') by unfold pairF; rw [hea, heb])
  clear hea heb
  have HZ : Hid (∀ E, E = tellV (pairV minusU xs ys) (pairF R C m xs R' C' m' ys) → E ≠ 0 → (if E = 0 then pairV minusU xs ys else []) = []) := Lib.hid (fun E _ h => if_neg h)
  have HY : Hid (∀ E, E = 0 → (if E = (0 : Int) then pairV minusU xs ys else []) = pairV minusU xs ys) := Lib.hid (fun E h => if_pos h)
  have HEE := Lib.hid (show tellV (pairV minusU xs ys) (pairF R C m xs R' C' m' ys) = tellV (pairV minusU xs ys) (pairF R C m xs R' C' m' ys) from rfl)
  obtain ⟨E, hE⟩ : ∃ E, E = tellV (pairV minusU xs ys) (pairF R C m xs R' C' m' ys) := ⟨_, rfl⟩
  rw [← hE]
  have HED := Lib.hid hE
  obtain ⟨Z, hZ⟩ : ∃ Z, Z = if E = 0 then pairV minusU xs ys else [] := ⟨_, rfl⟩
  rw [← hZ]
  have HZD := Lib.hid hZ
  clear hE hZ HZ HY HEE
  have B0 := below_both bx b2
  replace G := G.behind b2
  have G2 : Ms ((w.alloc (.cells #[.int .i64 R, .int .i64 C, .slice a m cap, .int .i64 R', .int .i64 C', .slice a' m' cap'] 71)).alloc (.cells #[.int .i64 0, .int .i64 0, .slice none 0 0] 24)) (w.heap.size + 1) #[.int .i64 0, .int .i64 0, .slice none 0 0] 24 := by
    have := World.alloc_heap_new (w.alloc (.cells #[.int .i64 R, .int .i64 C, .slice a m cap, .int .i64 R', .int .i64 C', .slice a' m' cap'] 71)) (.cells #[.int .i64 0, .int .i64 0, .slice none 0 0] 24)
    rw [World.size_alloc] at this
    exact this
  clear b2
  go_enter Try.func58, Try.ntmps58
  go_wp2
  generalize (w.alloc (.cells #[.int .i64 R, .int .i64 C, .slice a m cap, .int .i64 R', .int .i64 C', .slice a' m' cap'] 71)).alloc (.cells #[.int .i64 0, .int .i64 0, .slice none 0 0] 24) = W0 at *
  go_loopw [15] (fun i wr => ∃ (k : Nat) (z : Int), k ≤ 2 ∧ z = k ∧ i = .int .i64 z ∧ Hid (1 ≤ k → ea = 0) ∧ Hid (2 ≤ k → eb = 0) ∧ Below W0.heap.size W0 wr) (fun i _ => 2 - (intOf i).toNat)
  case atStart => exact ⟨0, 0, by omega, rfl, rfl, Lib.hid (fun h => absurd h (by decide)), Lib.hid (fun h => absurd h (by decide)), Below.refl _ _⟩
  case round =>
    obtain ⟨k, z, hk, hz, rfl, HE1, HE2, hB⟩ := hrel
    have hBw := below_both B0 hB
    rcases (show k = 0 ∨ k = 1 ∨ k = 2 by omega) with rfl | rfl | rfl
    · obtain rfl : z = 0 := hz
      by_cases he : ea = 0
      · have HE := Lib.hid he
        have d : (ea != 0) = false := by simp [he]
        clear he
        go_wp2_with fail
        have bA := bel_new wr (.cells #[.int .i64 R, .int .i64 C, .slice a m cap] 24)
        refine (H1.out _ (below_both hBw bA)).mono ?_
        rintro e w2 ⟨rfl, b2⟩
        go_wp2
        go_roundw
        case rel => exact ⟨1, 1, by omega, rfl, rfl, Lib.hid (fun _ => HE.out), Lib.hid (fun h => absurd h (by decide)), below_both hB (below_both bA b2)⟩
        case measure => simp [intOf]
      · have d : (ea != 0) = true := bne_iff_ne.2 he
        have HT : Hid (E = ea ∧ ea ≠ 0) := Lib.hid ⟨by
          rw [HED.out, HPF.out]
          rcases HWAY with ⟨_, h⟩ | ⟨h, _⟩ | ⟨h, _⟩
          · rw [h]; unfold tellV; rw [if_pos he]
          · exact absurd h he
          · exact absurd h he, he⟩
        clear he
        go_wp2_with fail
        have bA := bel_new wr (.cells #[.int .i64 R, .int .i64 C, .slice a m cap] 24)
        refine (H1.out _ (below_both hBw bA)).mono ?_
        rintro e w2 ⟨rfl, b2⟩
        have hB2 := below_both hB (below_both bA b2)
        have G4 := G2.behind hB2
        have g0 := G4.cell (i := 0) rfl
        have g1 := G4.cell (i := 1) rfl
        have g2 := G4.cell (i := 2) rfl
        have f0 := G4.f 0
        have f1 := G4.f 1
        have f2 := G4.f 2
        have HB2 := Lib.hid (below_both B0 hB2)
        go_wp2
        exact bodyPost_ret (v := .tuple #[.agg #[.int .i64 0, .int .i64 0, .slice none 0 0], .int .i64 ea]) (by simp [results, Try.results58, go_sem, g0, g1, g2]) rfl
          ⟨0, 0, none, 0, 0, by rw [HT.out.1], by rw [HZD.out, if_neg (by rw [HT.out.1]; exact HT.out.2)]; exact new_nil _ hpos (HB2.out.put3 (by omega) _ _ _), fun h => absurd (HT.out.1.symm.trans h) HT.out.2, HB2.out.put3 (by omega) _ _ _⟩
    · obtain rfl : z = 1 := hz
      have ha0 := HE1.out (by omega)
      by_cases he : eb = 0
      · have HE := Lib.hid he
        have HEA := Lib.hid ha0
        have d : (eb != 0) = false := by simp [he]
        clear he ha0
        go_wp2_with fail
        have bA := bel_new wr (.cells #[.int .i64 R', .int .i64 C', .slice a' m' cap'] 24)
        refine (H2.out _ (below_both hBw bA)).mono ?_
        rintro e w2 ⟨rfl, b2⟩
        go_wp2
        go_roundw
        case rel => exact ⟨2, 2, by omega, rfl, rfl, Lib.hid (fun _ => HEA.out), Lib.hid (fun _ => HE.out), below_both hB (below_both bA b2)⟩
        case measure => simp [intOf]
      · have d : (eb != 0) = true := bne_iff_ne.2 he
        have HT : Hid (E = eb ∧ eb ≠ 0) := Lib.hid ⟨by
          rw [HED.out, HPF.out]
          rcases HWAY with ⟨h, _⟩ | ⟨_, _, h⟩ | ⟨_, h, _⟩
          · exact absurd ha0 h
          · rw [h]; unfold tellV; rw [if_pos he]
          · exact absurd h he, he⟩
        clear he ha0
        go_wp2_with fail
        have bA := bel_new wr (.cells #[.int .i64 R', .int .i64 C', .slice a' m' cap'] 24)
        refine (H2.out _ (below_both hBw bA)).mono ?_
        rintro e w2 ⟨rfl, b2⟩
        have hB2 := below_both hB (below_both bA b2)
        have G4 := G2.behind hB2
        have g0 := G4.cell (i := 0) rfl
        have g1 := G4.cell (i := 1) rfl
        have g2 := G4.cell (i := 2) rfl
        have f0 := G4.f 0
        have f1 := G4.f 1
        have f2 := G4.f 2
        have HB2 := Lib.hid (below_both B0 hB2)
        go_wp2
        exact bodyPost_ret (v := .tuple #[.agg #[.int .i64 0, .int .i64 0, .slice none 0 0], .int .i64 eb]) (by simp [results, Try.results58, go_sem, g0, g1, g2]) rfl
          ⟨0, 0, none, 0, 0, by rw [HT.out.1], by rw [HZD.out, if_neg (by rw [HT.out.1]; exact HT.out.2)]; exact new_nil _ hpos (HB2.out.put3 (by omega) _ _ _), fun h => absurd (HT.out.1.symm.trans h) HT.out.2, HB2.out.put3 (by omega) _ _ _⟩
    · obtain rfl : z = 2 := hz
      have ha0 := HE1.out (by omega)
      have hb0 := HE2.out (by omega)
      have G := G.behind hB
      have k0 := G.cell (i := 0) rfl
      have k1 := G.cell (i := 1) rfl
      have k2 := G.cell (i := 2) rfl
      have k3 := G.cell (i := 3) rfl
      have k4 := G.cell (i := 4) rfl
      have k5 := G.cell (i := 5) rfl
      have p0 := fun o => (G.behind (bel_new wr o)).cell (i := 0) rfl
      have q0 := fun o o' => ((G.behind (bel_new wr o)).behind (bel_new _ o')).cell (i := 0) rfl
      have p1 := fun o => (G.behind (bel_new wr o)).cell (i := 1) rfl
      have q1 := fun o o' => ((G.behind (bel_new wr o)).behind (bel_new _ o')).cell (i := 1) rfl
      have p2 := fun o => (G.behind (bel_new wr o)).cell (i := 2) rfl
      have q2 := fun o o' => ((G.behind (bel_new wr o)).behind (bel_new _ o')).cell (i := 2) rfl
      have p3 := fun o => (G.behind (bel_new wr o)).cell (i := 3) rfl
      have q3 := fun o o' => ((G.behind (bel_new wr o)).behind (bel_new _ o')).cell (i := 3) rfl
      have p4 := fun o => (G.behind (bel_new wr o)).cell (i := 4) rfl
      have q4 := fun o o' => ((G.behind (bel_new wr o)).behind (bel_new _ o')).cell (i := 4) rfl
      have p5 := fun o => (G.behind (bel_new wr o)).cell (i := 5) rfl
      have q5 := fun o o' => ((G.behind (bel_new wr o)).behind (bel_new _ o')).cell (i := 5) rfl
      go_upto_region 8 with (fail)
      go_cut [9, 10] from 25 to 28 (fun p q wx => ∃ g1 g2, p = .pointer (some ⟨g1, 0, none⟩) ∧ q = .pointer (some ⟨g2, 0, none⟩) ∧ Ms wx g1 #[.int .i64 R, .int .i64 C, .slice a m cap] 24 ∧ Ms wx g2 #[.int .i64 R', .int .i64 C', .slice a' m' cap'] 24 ∧ Below wr.heap.size wr wx)
      case first =>
        go_region
        all_goals
          go_wp2_with fail
          go_meet
        · obtain ⟨hb, h1, h2, _⟩ := vboxm wr #[.int .i64 R, .int .i64 C, .slice a m cap] #[.int .i64 R', .int .i64 C', .slice a' m' cap'] 24 24 _ rfl
          exact ⟨_, _, rfl, rfl, h1, h2, hb.drew⟩
        · obtain ⟨hb, h1, h2, _⟩ := vboxm wr #[.int .i64 R', .int .i64 C', .slice a' m' cap'] #[.int .i64 R, .int .i64 C, .slice a m cap] 24 24 _ rfl
          exact ⟨_, _, rfl, rfl, h2, h1, hb.drew⟩
      clear p0 p1 p2 p3 p4 p5 q0 q1 q2 q3 q4 q5 k0 k1 k2 k3 k4 k5 x0 x1
      obtain ⟨gA, gB, rfl, rfl, GA, GB, hb3⟩ := hcut
      replace hB := below_both hB hb3
      replace hBw := below_both B0 hB
      have a0 := GA.cell (i := 0) rfl
      have a1 := GA.cell (i := 1) rfl
      have a2 := GA.cell (i := 2) rfl
      have b0 := GB.cell (i := 0) rfl
      have b1 := GB.cell (i := 1) rfl
      have b2 := GB.cell (i := 2) rfl
      have HA0 := Lib.hid (And.intro ha0 hb0)
      clear ha0 hb0 G hb3 bx
      have hF3 : Hid (firstE ea eb (sidesE R C R' C') = sidesE R C R' C') := Lib.hid (by
        rcases HWAY with ⟨h, _⟩ | ⟨_, h, _⟩ | ⟨_, _, h⟩
        · exact absurd HA0.out.1 h
        · exact absurd HA0.out.2 h
        · exact h)
      by_cases hRC : R = R' ∧ C = C'
      · obtain ⟨rfl, rfl⟩ := hRC
        have hm := (finM_ok (HE.out.1.trans HA0.out.1)).1
        have hm' := (finM_ok (HE.out.2.trans HA0.out.2)).1
        obtain ⟨q1, q2, q3, q4, q5⟩ := mayM_iff.1 hm
        obtain ⟨_, _, _, _, q6⟩ := mayM_iff.1 hm'
        have hmm : m' = m := by omega
        have hm0 : 0 < m := by have := Int.mul_pos (show 0 < R by omega) (show 0 < C by omega); omega
        have hm1 : m ≤ 4096 := by have := Int.mul_le_mul q2 q4 (by omega) (by decide); omega
        subst hmm
        have hxl : m' = xs.length := by
          obtain ⟨a', c', e⟩ := hA.slice
          simp only [Value.slice.injEq] at e
          omega
        have HF0 : Hid (E = tellV (pairV minusU xs ys) 0) := Lib.hid (by
          rw [HED.out, HPF.out, hF3.out]
          unfold sidesE
          rw [if_neg (by simp)])
        have HC := Lib.hid (mat_copied (R := R) (C := C) (hA.behind hBw) (by omega))
        obtain ⟨T, a9, c9, hT, e9, _, HY⟩ := hA'.opened
        simp only [Value.slice.injEq] at e9
        obtain ⟨rfl, hyl, rfl⟩ := e9
        rw [← hyl] at HY
        have HXL := Lib.hid (fun k => lim_lt hx (by decide : 0 < 18446744073709551616) k)
        have HYL := Lib.hid (fun k => lim_lt hy (by decide : 0 < 18446744073709551616) k)
        obtain ⟨f, hf⟩ : ∃ f : Nat → Nat, f = fun k => minusU (lim xs k) (lim ys k) := ⟨_, rfl⟩
        have HFD := Lib.hid hf
        have HPV : Hid (pairV minusU xs ys = upd f xs m') := Lib.hid (by rw [hxl, upd_all, hf]; rfl)
        have HXN := Lib.hid hxl
        have HLW : Hid (Low 18446744073709551616 (pairV minusU xs ys)) := Lib.hid (rowV_low fun k _ => minusU_lt (by have := HXL.out k; omega) (by have := HYL.out k; omega))
        have HMM := Lib.hid (And.intro hm0 hm1)
        have d1 : (R != R) = false := by simp
        have d2 : (C != C) = false := by simp
        have hm4 : (m' : Int) ≤ 4096 := by omega
        clear hm hm' q1 q2 q3 q4 q5 q6 hxl hyl hf hA hA' hx hy H1 H2 hF3 HWAY HE HPF hm0 hm1
        go_wp2_with fail
        refine HC.out.mono ?_
        rintro e w3 ⟨o8, c8, rfl, ho, b8⟩
        obtain ⟨d, c7, e7, hd1, hd2⟩ := ho.form (by rw [zn_length, ← HXN.out]; exact HMM.out.1)
        rw [zn_length, ← HXN.out] at e7
        simp only [Value.slice.injEq] at e7
        obtain ⟨rfl, -, rfl⟩ := e7
        have HGO : Hid (Ms (w3.alloc (.cells #[.int .i64 R, .int .i64 C, .slice (some ⟨d, 0, none⟩) m' c8] 24)) w3.heap.size #[.int .i64 R, .int .i64 C, .slice (some ⟨d, 0, none⟩) m' c8] 24) := Lib.hid (World.alloc_heap_new _ _)
        have HHO := Lib.hid (ho.alloc (.cells #[.int .i64 R, .int .i64 C, .slice (some ⟨d, 0, none⟩) m' c8] 24))
        have HB4 := Lib.hid (b8.alloc b8.size (.cells #[.int .i64 R, .int .i64 C, .slice (some ⟨d, 0, none⟩) m' c8] 24))
        obtain ⟨gO, hgO⟩ : ∃ gO, gO = w3.heap.size := ⟨_, rfl⟩
        rw [← hgO] at HGO
        have HGD : Hid (gO ≠ d ∧ wc.heap.size ≤ d ∧ wc.heap.size ≤ gO) := Lib.hid ⟨by omega, hd1, by have := b8.size; omega⟩
        go_wp2
        rw [← hgO]
        clear hgO hd1 hd2 b8 ho HC
        generalize w3.alloc (.cells #[.int .i64 R, .int .i64 C, .slice (some ⟨d, 0, none⟩) m' c8] 24) = w4 at *
        go_loopw [47] (fun i wr => ∃ k : Nat, k ≤ m' ∧ i = .int .i64 k ∧ OwnK .u64 49 wc.heap.size wr (.slice (some ⟨d, 0, none⟩) m' c8) (zn (upd f xs k)) ∧ Ms wr gO #[.int .i64 R, .int .i64 C, .slice (some ⟨d, 0, none⟩) m' c8] 24 ∧ Below wc.heap.size wc wr) (fun i _ => m' - (intOf i).toNat)
        case atStart => exact ⟨0, Nat.zero_le _, rfl, by rw [upd_zero]; exact HHO.out, HGO.out, HB4.out⟩
        case round =>
          obtain ⟨k, hk, rfl, ho, hGO, hB5⟩ := hrel
          have hBr := below_both hBw hB5
          by_cases hlt : k < m'
          · have hxn := HXN.out
            have ko := ho.cell (j := k) (by rw [zn_length, upd_length]; omega)
            rw [zn_at (by rw [upd_length]; omega), upd_at (by omega), if_neg (by omega)] at ko
            have kf := ho.frozen k
            obtain ⟨oy, rfl, ky⟩ := HY.out wr hBr k hlt
            have HS : Hid (zn (upd f xs (k + 1)) = (zn (upd f xs k)).set k (f k : Int)) := Lib.hid (by rw [upd_succ, zn_set])
            have hfk : f k = minusU (lim xs k) (lim ys k) := by rw [HFD.out]
            have hadd := fun w => fadd_sub (a := lim xs k) (b := lim ys k) (mode := 0) (w := w) (by have := HXL.out k; omega) (by have := HYL.out k; omega)
            rw [show (rsubt (lim xs k) (lim ys k) 0).1 = f k from hfk.symm] at hadd
            have HAD := Lib.hid hadd
            have hTw : T < wr.heap.size := Nat.lt_of_lt_of_le hT hBr.size
            have hgB : gB < wr.heap.size := Nat.lt_of_lt_of_le GB.lt hB5.size
            have go2 : wr.cell? ⟨gO, 2, none⟩ = some (.slice (some ⟨d, 0, none⟩) m' c8) := hGO.cell (i := 2) rfl
            have gb2 : wr.cell? ⟨gB, 2, none⟩ = some (.slice (some ⟨T, oy, none⟩) m' cap') := (GB.behind hB5).cell (i := 2) rfl
            have hGr := hGO.lt
            have hdw : d < wr.heap.size := (World.ownsRow.lt ho d rfl).2
            clear hxn hadd hfk
            generalize lim xs k = x at *
            generalize lim ys k = y at *
            generalize f k = z at *
            have n1 : gO ≠ d := HGD.out.1
            have n2 : gB ≠ d := by have := GB.lt; have := HGD.out.2.1; omega
            have n3 : T ≠ d := by have := hBw.size; have := HGD.out.2.1; omega
            have Br : Below wr.heap.size wr wr := Below.refl _ _
            go_wp2_with fail
            go_region_held3 (fun w' => w'.cell? ⟨gO, 2, none⟩ = some (.slice (some ⟨d, 0, none⟩) m' c8) ∧ w'.cell? ⟨gB, 2, none⟩ = some (.slice (some ⟨T, oy, none⟩) m' cap') ∧ w'.cell? ⟨T, oy + k, none⟩ = some (.int .u64 (y : Int)))
              (first | with_reducible exact ⟨(Br.cell (p := ⟨gO, 2, none⟩) hGr).trans go2, (Br.cell (p := ⟨gB, 2, none⟩) hgB).trans gb2, (Br.cell (p := ⟨T, oy + k, none⟩) hTw).trans ky⟩ | with_reducible exact ⟨(Br.drew.cell (p := ⟨gO, 2, none⟩) hGr).trans go2, (Br.drew.cell (p := ⟨gB, 2, none⟩) hgB).trans gb2, (Br.drew.cell (p := ⟨T, oy + k, none⟩) hTw).trans ky⟩ | with_reducible exact ⟨cell_off ((Br.cell (p := ⟨gO, 2, none⟩) hGr).trans go2) n1, cell_off ((Br.cell (p := ⟨gB, 2, none⟩) hgB).trans gb2) n2, cell_off ((Br.cell (p := ⟨T, oy + k, none⟩) hTw).trans ky) n3⟩ | (refine ⟨?_, ?_, ?_⟩ <;> go_keep))
              (first
                | (go_at_call 59; (with_reducible refine (HAD.out _).mono ?_); rintro e v4 ⟨rfl, bz⟩; replace Br : Below wr.heap.size wr v4 := (by first | with_reducible exact below_both Br bz | with_reducible exact below_both Br.drew bz); clear bz; have ho4 := ho.below Br; have ko4 := (Br.cell (p := ⟨d, k, none⟩) hdw).trans ko; have kf4 := ho4.frozen k))
            clear go2 gb2 ky ko kf
            go_wp2
            go_roundw
            case rel => exact ⟨k + 1, by omega, by simp, by rw [HS.out]; exact ho4.set k _, (hGO.behind Br).put (show gO ≠ (⟨d, k, none⟩ : Addr).block from n1) _, (below_both hB5 Br).setCell (p := ⟨d, k, none⟩) HGD.out.2.1 _⟩
            case measure => simp [intOf]; omega
          · obtain rfl : k = m' := by omega
            clear hlt
            have hxn := HXN.out
            have ho6 := ho
            rw [show upd f xs k = pairV minusU xs ys from HPV.out.symm] at ho6
            have hWp : 0 < wr.heap.size := Nat.lt_of_lt_of_le hpos hBr.size
            have hNew := new_zn.2 (ho6.new hWp)
            have HNEW : Hid (New wc.heap.size wr (.slice (some ⟨d, 0, none⟩) k c8) (pairV minusU xs ys)) := Lib.hid hNew
            have hln : (pairV minusU xs ys).length = k := by unfold pairV; rw [rowV_length]; exact hxn.symm
            have HT := Lib.hid (mat_told (R := R) (C := C) hNew.arg HLW.out (by rw [hln]; have := HMM.out.2; omega))
            have HWS : Hid (w.heap.size ≤ wc.heap.size ∧ w.heap.size + 1 < wc.heap.size) := Lib.hid ⟨hBw.size, by have := G2.lt; have := hB.size; omega⟩
            have go0 : wr.cell? ⟨gO, 0, none⟩ = some (.int .i64 R) := hGO.cell (i := 0) rfl
            have go1 : wr.cell? ⟨gO, 1, none⟩ = some (.int .i64 C) := hGO.cell (i := 1) rfl
            have go2 : wr.cell? ⟨gO, 2, none⟩ = some (.slice (some ⟨d, 0, none⟩) k c8) := hGO.cell (i := 2) rfl
            have HG2 := Lib.hid ((G2.behind hB).behind hB5)
            have HBR := Lib.hid hBr
            have HTE := Lib.hid (tellV_yes (want := pairV minusU xs ys))
            clear ho ho6 hNew hln hxn hGO hk
            generalize pairV minusU xs ys = ws at *
            go_wp2_with fail
            refine HT.out.mono ?_
            rintro e w9 ⟨hway, b9⟩
            have G4 : Ms w9 (w.heap.size + 1) #[.int .i64 0, .int .i64 0, .slice none 0 0] 24 := HG2.out.behind b9
            have g0 := G4.cell (i := 0) rfl
            have g1 := G4.cell (i := 1) rfl
            have g2 := G4.cell (i := 2) rfl
            have f0 := G4.f 0
            have f1 := G4.f 1
            have f2 := G4.f 2
            have HB9 := Lib.hid (below_both HBR.out b9)
            have HN9 := Lib.hid (HNEW.out.behind b9)
            rcases hway with ⟨hf, rfl⟩ | ⟨hf, rfl⟩
            · have HEZ : Hid (E = 0) := Lib.hid (by rw [HF0.out, HTE.out, hf]; rfl)
              clear hf
              go_wp2
              exact bodyPost_ret (v := .tuple #[.agg #[.int .i64 R, .int .i64 C, .slice (some ⟨d, 0, none⟩) k c8], .int .i64 0]) (by simp [results, Try.results58, go_sem, g0, g1, g2]) rfl
                ⟨R, C, _, _, _, by rw [HEZ.out], by rw [HZD.out, if_pos HEZ.out]; exact (HN9.out.put3 HWS.out.2 _ _ _).lower HWS.out.1, fun _ => ⟨rfl, rfl⟩, HB9.out.put3 (by omega) _ _ _⟩
            · have HEZ : Hid (E = 13) := Lib.hid (by rw [HF0.out, HTE.out, hf]; rfl)
              clear hf
              go_wp2
              exact bodyPost_ret (v := .tuple #[.agg #[.int .i64 0, .int .i64 0, .slice none 0 0], .int .i64 13]) (by simp [results, Try.results58, go_sem, g0, g1, g2]) rfl
                ⟨0, 0, none, 0, 0, by rw [HEZ.out], by rw [HZD.out, if_neg (by rw [HEZ.out]; decide)]; exact new_nil _ hpos (HB9.out.put3 (by omega) _ _ _), fun h => absurd (HEZ.out.symm.trans h) (by decide), HB9.out.put3 (by omega) _ _ _⟩
      · have HT : Hid (E = 11) := Lib.hid (by
          rw [HED.out, HPF.out, hF3.out]
          unfold sidesE tellV
          rw [if_pos (show R ≠ R' ∨ C ≠ C' by
            by_cases h : R = R'
            · exact .inr fun h2 => hRC ⟨h, h2⟩
            · exact .inl h), if_pos (by decide)])
        have hways : R ≠ R' ∨ (R = R' ∧ C ≠ C') := by
          by_cases h : R = R'
          · exact .inr ⟨h, fun h2 => hRC ⟨h, h2⟩⟩
          · exact .inl h
        clear hRC
        have G4 := G2.behind hB
        have g0 := G4.cell (i := 0) rfl
        have g1 := G4.cell (i := 1) rfl
        have g2 := G4.cell (i := 2) rfl
        have f0 := G4.f 0
        have f1 := G4.f 1
        have f2 := G4.f 2
        have HB2 := Lib.hid hBw
        rcases hways with h | ⟨rfl, h⟩
        · have d : (R != R') = true := bne_iff_ne.2 h
          clear h
          go_wp2
          exact bodyPost_ret (v := .tuple #[.agg #[.int .i64 0, .int .i64 0, .slice none 0 0], .int .i64 11]) (by simp [results, Try.results58, go_sem, g0, g1, g2]) rfl
            ⟨0, 0, none, 0, 0, by rw [HT.out], by rw [HZD.out, if_neg (by rw [HT.out]; decide)]; exact new_nil _ hpos (HB2.out.put3 (by omega) _ _ _), fun h => absurd (HT.out.symm.trans h) (by decide), HB2.out.put3 (by omega) _ _ _⟩
        · have d1 : (R != R) = false := by simp
          have d2 : (C != C') = true := bne_iff_ne.2 h
          clear h
          go_wp2
          exact bodyPost_ret (v := .tuple #[.agg #[.int .i64 0, .int .i64 0, .slice none 0 0], .int .i64 11]) (by simp [results, Try.results58, go_sem, g0, g1, g2]) rfl
            ⟨0, 0, none, 0, 0, by rw [HT.out], by rw [HZD.out, if_neg (by rw [HT.out]; decide)]; exact new_nil _ hpos (HB2.out.put3 (by omega) _ _ _), fun h => absurd (HT.out.symm.trans h) (by decide), HB2.out.put3 (by omega) _ _ _⟩
end Go.Proofs.Ytjapilpjahhimaa

/- mat: Add, Sub. -/
namespace Go.Proofs.Ytjapilpjahhimaa
open Go.RowKit Go.Shelf
set_option maxHeartbeats 4000000 in
theorem mat_sub {R C R' C' : Int} {a a' : Option Addr} {m m' cap cap' : Nat} {xs ys : List Nat} {w : World} (hA : Arg w (.slice a m cap) xs) (hA' : Arg w (.slice a' m' cap') ys) (hx : Low 18446744073709551616 xs) (hy : Low 18446744073709551616 ys) :
    Calls Try.prog 28 #[.agg #[.int .i64 R, .int .i64 C, .slice a m cap], .agg #[.int .i64 R', .int .i64 C', .slice a' m' cap']] w fun e W' => ∃ R2 C2 b n c, e = .returned (.tuple #[.agg #[.int .i64 R2, .int .i64 C2, .slice b n c], .int .i64 (tellV (pairV minusU xs ys) (pairF R C m xs R' C' m' ys))]) ∧ New w.heap.size W' (.slice b n c) (if tellV (pairV minusU xs ys) (pairF R C m xs R' C' m' ys) = 0 then pairV minusU xs ys else []) ∧ (tellV (pairV minusU xs ys) (pairF R C m xs R' C' m' ys) = 0 → R2 = R ∧ C2 = C) ∧ Below w.heap.size w W' := by
  have hp := fun (W : World) (h : Below w.heap.size w W) => mat_pairSub (R := R) (C := C) (R' := R') (C' := C') (hA.behind h) (hA'.behind h) hx hy
  generalize tellV (pairV minusU xs ys) (pairF R C m xs R' C' m' ys) = E at *
  generalize (if E = 0 then pairV minusU xs ys else []) = Z at *
  clear hA hA' hx hy
  have HP := Lib.hid hp
  clear hp
  obtain ⟨b1, G1, G2, hw1⟩ := vboxm w #[.int .i64 R, .int .i64 C, .slice a m cap] #[.int .i64 R', .int .i64 C', .slice a' m' cap'] 24 24 _ rfl
  have b2 := bel_new ((w.alloc (.cells #[.int .i64 R, .int .i64 C, .slice a m cap] 24)).alloc (.cells #[.int .i64 R', .int .i64 C', .slice a' m' cap'] 24)) (.cells #[.int .i64 0, .int .i64 0, .slice none 0 0] 24)
  have G3 : Ms (((w.alloc (.cells #[.int .i64 R, .int .i64 C, .slice a m cap] 24)).alloc (.cells #[.int .i64 R', .int .i64 C', .slice a' m' cap'] 24)).alloc (.cells #[.int .i64 0, .int .i64 0, .slice none 0 0] 24)) (w.heap.size + 1 + 1) #[.int .i64 0, .int .i64 0, .slice none 0 0] 24 := by
    have := World.alloc_heap_new ((w.alloc (.cells #[.int .i64 R, .int .i64 C, .slice a m cap] 24)).alloc (.cells #[.int .i64 R', .int .i64 C', .slice a' m' cap'] 24)) (.cells #[.int .i64 0, .int .i64 0, .slice none 0 0] 24)
    simp only [World.size_alloc] at this
    exact this
  replace G1 := G1.behind b2
  replace G2 := G2.behind b2
  have B := below_both b1 b2
  have hsz : w.heap.size + 1 + 1 < (((w.alloc (.cells #[.int .i64 R, .int .i64 C, .slice a m cap] 24)).alloc (.cells #[.int .i64 R', .int .i64 C', .slice a' m' cap'] 24)).alloc (.cells #[.int .i64 0, .int .i64 0, .slice none 0 0] 24)).heap.size := G3.lt
  have c0 := G1.cell (i := 0) rfl
  have c1 := G1.cell (i := 1) rfl
  have c2 := G1.cell (i := 2) rfl
  have d0 := G2.cell (i := 0) rfl
  have d1 := G2.cell (i := 1) rfl
  have d2 := G2.cell (i := 2) rfl
  clear b1 b2 hw1
  go_enter Try.func28, Try.ntmps28
  go_wp2_with fail
  generalize ((w.alloc (.cells #[.int .i64 R, .int .i64 C, .slice a m cap] 24)).alloc (.cells #[.int .i64 R', .int .i64 C', .slice a' m' cap'] 24)).alloc (.cells #[.int .i64 0, .int .i64 0, .slice none 0 0] 24) = W0 at *
  refine (HP.out _ B).mono ?_
  rintro e w2 ⟨R2, C2, b, n, c, rfl, hN, hR, b3⟩
  have G4 := G3.behind b3
  have g0 := G4.cell (i := 0) rfl
  have g1 := G4.cell (i := 1) rfl
  have g2 := G4.cell (i := 2) rfl
  have f0 := G4.f 0
  have f1 := G4.f 1
  have f2 := G4.f 2
  have HB := Lib.hid (below_both B b3)
  have HNN := Lib.hid hN
  have HR := Lib.hid hR
  clear hN hR b3 G4
  go_wp2
  exact bodyPost_ret (v := .tuple #[.agg #[.int .i64 R2, .int .i64 C2, .slice b n c], .int .i64 E]) (by simp [results, Try.results28, go_sem, g0, g1, g2]) rfl
    ⟨R2, C2, b, n, c, rfl, (HNN.out.put3 hsz _ _ _).lower (by omega), HR.out, HB.out.put3 (by omega) _ _ _⟩
end Go.Proofs.Ytjapilpjahhimaa

/- mat: Scale. -/
namespace Go.Proofs.Ytjapilpjahhimaa
open Go.RowKit Go.Shelf
def scF (R C : Int) (m : Nat) (xs : List Nat) (x : Nat) : Int := firstE (finM R C m xs) (nfE x) 0
set_option maxRecDepth 100000 in
set_option maxHeartbeats 16000000 in
theorem mat_scale {R C : Int} {a : Option Addr} {m cap p : Nat} {xs : List Nat} {w : World} (hp : (p : Int) ≤ 18446744073709551615) (hA : Arg w (.slice a m cap) xs) (hx : Low 18446744073709551616 xs) :
    Calls Try.prog 38 #[.int .u64 (p : Int), .agg #[.int .i64 R, .int .i64 C, .slice a m cap]] w fun e W' => ∃ R2 C2 b n c, e = .returned (.tuple #[.agg #[.int .i64 R2, .int .i64 C2, .slice b n c], .int .i64 (tellV (scalV p xs) (scF R C m xs p))]) ∧ New w.heap.size W' (.slice b n c) (if tellV (scalV p xs) (scF R C m xs p) = 0 then scalV p xs else []) ∧ (tellV (scalV p xs) (scF R C m xs p) = 0 → R2 = R ∧ C2 = C) ∧ Below w.heap.size w W' := by
  have h1 := fun (W : World) (h : Below w.heap.size w W) => shape_finite (R := R) (C := C) (hA.behind h) hx
  have hnf := fun w => mat_nf (w := w) hp
  have HWAY := firstE_ways (finM R C m xs) (nfE p) 0
  have hpos : 0 < w.heap.size := by obtain ⟨S, hS, _⟩ := hA; omega
  obtain ⟨B0, G, G2, hsz⟩ := vboxm w #[.int .i64 R, .int .i64 C, .slice a m cap] #[.int .i64 0, .int .i64 0, .slice none 0 0] 24 24 _ rfl
  have H1 := Lib.hid h1
  clear h1
  have k0 := G.cell (i := 0) rfl
  have k1 := G.cell (i := 1) rfl
  have k2 := G.cell (i := 2) rfl
  obtain ⟨ea, hea⟩ : ∃ ea, finM R C m xs = ea := ⟨_, rfl⟩
  have HE := Lib.hid hea
  have HPF := Lib.hid (show scF R C m xs p = firstE ea (nfE p) 0 by unfold scF; rw [hea])
  rw [hea] at H1 HWAY
  obtain ⟨E, hE⟩ : ∃ E, E = tellV (scalV p xs) (scF R C m xs p) := ⟨_, rfl⟩
  rw [← hE]
  have HED := Lib.hid hE
  obtain ⟨Z, hZ⟩ : ∃ Z, Z = if E = 0 then scalV p xs else [] := ⟨_, rfl⟩
  rw [← hZ]
  have HZD := Lib.hid hZ
  clear hE hZ hea
  have HW := Lib.hid HWAY
  clear HWAY
  by_cases he : ea = 0
  · subst he
    by_cases hc : 2 ≤ cls p
    · have hd := decide_eq_true hc
      rw [hd] at hnf
      have HT : Hid (E = 12) := Lib.hid (by
        rw [HED.out, HPF.out]
        have hn : nfE p = 12 := by unfold nfE; rw [if_pos hc]
        rcases HW.out with ⟨h, _⟩ | ⟨_, _, h⟩ | ⟨_, h, _⟩
        · exact absurd rfl h
        · rw [h, hn]; unfold tellV; rw [if_pos (by decide)]
        · rw [hn] at h; exact absurd h (by decide))
      clear hc hd
      go_enter Try.func38, Try.ntmps38
      go_wp2_with fail
      generalize (w.alloc (.cells #[.int .i64 R, .int .i64 C, .slice a m cap] 24)).alloc (.cells #[.int .i64 0, .int .i64 0, .slice none 0 0] 24) = W0 at *
      refine (H1.out _ B0).mono ?_
      rintro e w2 ⟨rfl, b2⟩
      have G4 := G2.behind b2
      have g0 := G4.cell (i := 0) rfl
      have g1 := G4.cell (i := 1) rfl
      have g2 := G4.cell (i := 2) rfl
      have f0 := G4.f 0
      have f1 := G4.f 1
      have f2 := G4.f 2
      have HB2 := Lib.hid (below_both B0 b2)
      go_wp2_with fail
      refine (hnf _).mono ?_
      rintro e w2 ⟨rfl, rfl⟩
      go_wp2
      exact bodyPost_ret (v := .tuple #[.agg #[.int .i64 0, .int .i64 0, .slice none 0 0], .int .i64 12]) (by simp [results, Try.results38, go_sem, g0, g1, g2]) rfl
        ⟨0, 0, none, 0, 0, by rw [HT.out], by rw [HZD.out, if_neg (by rw [HT.out]; decide)]; exact new_nil _ hpos (HB2.out.put3 (by omega) _ _ _), fun h => absurd (HT.out.symm.trans h) (by decide), HB2.out.put3 (by omega) _ _ _⟩
    · have hd := decide_eq_false hc
      rw [hd] at hnf
      have HF0 : Hid (E = tellV (scalV p xs) 0) := Lib.hid (by
        rw [HED.out, HPF.out]
        have hn : nfE p = 0 := by unfold nfE; rw [if_neg hc]
        rw [hn]; rfl)
      clear hc hd
      have hm := (finM_ok HE.out).1
      obtain ⟨q1, q2, q3, q4, q5⟩ := mayM_iff.1 hm
      have hm0 : 0 < m := by have := Int.mul_pos (show 0 < R by omega) (show 0 < C by omega); omega
      have hm1 : m ≤ 4096 := by have := Int.mul_le_mul q2 q4 (by omega) (by decide); omega
      have hxl : m = xs.length := by
        obtain ⟨a', c', e⟩ := hA.slice
        simp only [Value.slice.injEq] at e
        omega
      have HC := Lib.hid (fun (W : World) (h : Below w.heap.size w W) => mat_copied (R := R) (C := C) (hA.behind h) (by omega))
      have HXL := Lib.hid (fun k => lim_lt hx (by decide : 0 < 18446744073709551616) k)
      obtain ⟨f, hf⟩ : ∃ f : Nat → Nat, f = fun k => timesU p (lim xs k) := ⟨_, rfl⟩
      have HFD := Lib.hid hf
      have HPV : Hid (scalV p xs = upd f xs m) := Lib.hid (by rw [hxl, upd_all, hf]; rfl)
      have HXN := Lib.hid hxl
      have HLW : Hid (Low 18446744073709551616 (scalV p xs)) := Lib.hid (rowV_low fun k _ => timesU_lt _ _)
      have HMM := Lib.hid (And.intro hm0 hm1)
      have hm4 : (m : Int) ≤ 4096 := by omega
      clear hm q1 q2 q3 q4 q5 hxl hf hA hx hm0 hm1 HE HPF HW
      go_enter Try.func38, Try.ntmps38
      go_wp2_with fail
      generalize (w.alloc (.cells #[.int .i64 R, .int .i64 C, .slice a m cap] 24)).alloc (.cells #[.int .i64 0, .int .i64 0, .slice none 0 0] 24) = W0 at *
      refine (H1.out _ B0).mono ?_
      rintro e wc ⟨rfl, b2⟩
      have hBw := below_both B0 b2
      have G4 := G.behind b2
      have k0 := G4.cell (i := 0) rfl
      have k1 := G4.cell (i := 1) rfl
      have k2 := G4.cell (i := 2) rfl
      replace G2 := G2.behind b2
      go_wp2_with fail
      refine (hnf _).mono ?_
      rintro e w2 ⟨rfl, rfl⟩
      clear hnf H1
      go_wp2_with fail
      refine (HC.out _ hBw).mono ?_
      rintro e w3 ⟨o8, c8, rfl, ho, b8⟩
      obtain ⟨d, c7, e7, hd1, hd2⟩ := ho.form (by rw [zn_length, ← HXN.out]; exact HMM.out.1)
      rw [zn_length, ← HXN.out] at e7
      simp only [Value.slice.injEq] at e7
      obtain ⟨rfl, -, rfl⟩ := e7
      have HGO : Hid (Ms (w3.alloc (.cells #[.int .i64 R, .int .i64 C, .slice (some ⟨d, 0, none⟩) m c8] 24)) w3.heap.size #[.int .i64 R, .int .i64 C, .slice (some ⟨d, 0, none⟩) m c8] 24) := Lib.hid (World.alloc_heap_new _ _)
      have HHO := Lib.hid (ho.alloc (.cells #[.int .i64 R, .int .i64 C, .slice (some ⟨d, 0, none⟩) m c8] 24))
      have HB4 := Lib.hid (b8.alloc b8.size (.cells #[.int .i64 R, .int .i64 C, .slice (some ⟨d, 0, none⟩) m c8] 24))
      obtain ⟨gO, hgO⟩ : ∃ gO, gO = w3.heap.size := ⟨_, rfl⟩
      rw [← hgO] at HGO
      have HGD : Hid (gO ≠ d ∧ wc.heap.size ≤ d ∧ wc.heap.size ≤ gO) := Lib.hid ⟨by omega, hd1, by have := b8.size; omega⟩
      go_wp2
      rw [← hgO]
      clear hgO hd1 hd2 b8 ho HC
      generalize w3.alloc (.cells #[.int .i64 R, .int .i64 C, .slice (some ⟨d, 0, none⟩) m c8] 24) = w4 at *
      go_loopw [24] (fun i wr => ∃ k : Nat, k ≤ m ∧ i = .int .i64 k ∧ OwnK .u64 49 wc.heap.size wr (.slice (some ⟨d, 0, none⟩) m c8) (zn (upd f xs k)) ∧ Ms wr gO #[.int .i64 R, .int .i64 C, .slice (some ⟨d, 0, none⟩) m c8] 24 ∧ Below wc.heap.size wc wr) (fun i _ => m - (intOf i).toNat)
      case atStart => exact ⟨0, Nat.zero_le _, rfl, by rw [upd_zero]; exact HHO.out, HGO.out, HB4.out⟩
      case round =>
        obtain ⟨k, hk, rfl, ho, hGO, hB5⟩ := hrel
        have hBr := below_both hBw hB5
        by_cases hlt : k < m
        · have hxn := HXN.out
          have ko := ho.cell (j := k) (by rw [zn_length, upd_length]; omega)
          rw [zn_at (by rw [upd_length]; omega), upd_at (by omega), if_neg (by omega)] at ko
          have kf := ho.frozen k
          have HS : Hid (zn (upd f xs (k + 1)) = (zn (upd f xs k)).set k (f k : Int)) := Lib.hid (by rw [upd_succ, zn_set])
          have hfk : f k = timesU p (lim xs k) := by rw [HFD.out]
          have hadd := fun w => fmul_mul (a := p) (b := lim xs k) (mode := 0) (w := w) hp (by have := HXL.out k; omega)
          rw [show (rmul p (lim xs k) 0).1 = f k from hfk.symm] at hadd
          have HAD := Lib.hid hadd
          have go2 : wr.cell? ⟨gO, 2, none⟩ = some (.slice (some ⟨d, 0, none⟩) m c8) := hGO.cell (i := 2) rfl
          have hGr := hGO.lt
          have hdw : d < wr.heap.size := (World.ownsRow.lt ho d rfl).2
          clear hxn hadd hfk
          generalize lim xs k = x at *
          generalize f k = z at *
          have n1 : gO ≠ d := HGD.out.1
          have Br : Below wr.heap.size wr wr := Below.refl _ _
          go_wp2_with fail
          go_region_held3 (fun w' => w'.cell? ⟨gO, 2, none⟩ = some (.slice (some ⟨d, 0, none⟩) m c8))
            (first | with_reducible exact (Br.cell (p := ⟨gO, 2, none⟩) hGr).trans go2 | with_reducible exact (Br.drew.cell (p := ⟨gO, 2, none⟩) hGr).trans go2 | with_reducible exact cell_off ((Br.cell (p := ⟨gO, 2, none⟩) hGr).trans go2) n1 | go_keep)
            (first
              | (go_at_call 67; (with_reducible refine (HAD.out _).mono ?_); rintro e v4 ⟨rfl, bz⟩; replace Br : Below wr.heap.size wr v4 := (by first | with_reducible exact below_both Br bz | with_reducible exact below_both Br.drew bz); clear bz; have ho4 := ho.below Br; have ko4 := (Br.cell (p := ⟨d, k, none⟩) hdw).trans ko; have kf4 := ho4.frozen k))
          clear go2 ko kf
          go_wp2
          go_roundw
          case rel => exact ⟨k + 1, by omega, by simp, by rw [HS.out]; exact ho4.set k _, (hGO.behind Br).put (show gO ≠ (⟨d, k, none⟩ : Addr).block from n1) _, (below_both hB5 Br).setCell (p := ⟨d, k, none⟩) HGD.out.2.1 _⟩
          case measure => simp [intOf]; omega
        · obtain rfl : k = m := by omega
          clear hlt
          have hxn := HXN.out
          have ho6 := ho
          rw [show upd f xs k = scalV p xs from HPV.out.symm] at ho6
          have hWp : 0 < wr.heap.size := Nat.lt_of_lt_of_le hpos hBr.size
          have hNew := new_zn.2 (ho6.new hWp)
          have HNEW : Hid (New wc.heap.size wr (.slice (some ⟨d, 0, none⟩) k c8) (scalV p xs)) := Lib.hid hNew
          have hln : (scalV p xs).length = k := by unfold scalV; rw [rowV_length]; exact hxn.symm
          have HT := Lib.hid (mat_told (R := R) (C := C) hNew.arg HLW.out (by rw [hln]; have := HMM.out.2; omega))
          have HWS : Hid (w.heap.size ≤ wc.heap.size ∧ w.heap.size + 1 < wc.heap.size) := Lib.hid ⟨hBw.size, by have := G2.lt; have := b2.size; omega⟩
          have go0 : wr.cell? ⟨gO, 0, none⟩ = some (.int .i64 R) := hGO.cell (i := 0) rfl
          have go1 : wr.cell? ⟨gO, 1, none⟩ = some (.int .i64 C) := hGO.cell (i := 1) rfl
          have go2 : wr.cell? ⟨gO, 2, none⟩ = some (.slice (some ⟨d, 0, none⟩) k c8) := hGO.cell (i := 2) rfl
          have HG2 := Lib.hid (G2.behind hB5)
          have HBR := Lib.hid hBr
          have HTE := Lib.hid (tellV_yes (want := scalV p xs))
          clear ho ho6 hNew hln hxn hGO hk
          generalize scalV p xs = ws at *
          go_wp2_with fail
          refine HT.out.mono ?_
          rintro e w9 ⟨hway, b9⟩
          have G4 : Ms w9 (w.heap.size + 1) #[.int .i64 0, .int .i64 0, .slice none 0 0] 24 := HG2.out.behind b9
          have g0 := G4.cell (i := 0) rfl
          have g1 := G4.cell (i := 1) rfl
          have g2 := G4.cell (i := 2) rfl
          have f0 := G4.f 0
          have f1 := G4.f 1
          have f2 := G4.f 2
          have HB9 := Lib.hid (below_both HBR.out b9)
          have HN9 := Lib.hid (HNEW.out.behind b9)
          rcases hway with ⟨hf, rfl⟩ | ⟨hf, rfl⟩
          · have HEZ : Hid (E = 0) := Lib.hid (by rw [HF0.out, HTE.out, hf]; rfl)
            clear hf
            go_wp2
            exact bodyPost_ret (v := .tuple #[.agg #[.int .i64 R, .int .i64 C, .slice (some ⟨d, 0, none⟩) k c8], .int .i64 0]) (by simp [results, Try.results38, go_sem, g0, g1, g2]) rfl
              ⟨R, C, _, _, _, by rw [HEZ.out], by rw [HZD.out, if_pos HEZ.out]; exact (HN9.out.put3 HWS.out.2 _ _ _).lower HWS.out.1, fun _ => ⟨rfl, rfl⟩, HB9.out.put3 (by omega) _ _ _⟩
          · have HEZ : Hid (E = 13) := Lib.hid (by rw [HF0.out, HTE.out, hf]; rfl)
            clear hf
            go_wp2
            exact bodyPost_ret (v := .tuple #[.agg #[.int .i64 0, .int .i64 0, .slice none 0 0], .int .i64 13]) (by simp [results, Try.results38, go_sem, g0, g1, g2]) rfl
              ⟨0, 0, none, 0, 0, by rw [HEZ.out], by rw [HZD.out, if_neg (by rw [HEZ.out]; decide)]; exact new_nil _ hpos (HB9.out.put3 (by omega) _ _ _), fun h => absurd (HEZ.out.symm.trans h) (by decide), HB9.out.put3 (by omega) _ _ _⟩
  · have d : (ea != 0) = true := bne_iff_ne.2 he
    have HT : Hid (E = ea ∧ ea ≠ 0) := Lib.hid ⟨by
      rw [HED.out, HPF.out]
      rcases HW.out with ⟨_, h⟩ | ⟨h, _⟩ | ⟨h, _⟩
      · rw [h]; unfold tellV; rw [if_pos he]
      · exact absurd h he
      · exact absurd h he, he⟩
    clear he
    go_enter Try.func38, Try.ntmps38
    go_wp2_with fail
    generalize (w.alloc (.cells #[.int .i64 R, .int .i64 C, .slice a m cap] 24)).alloc (.cells #[.int .i64 0, .int .i64 0, .slice none 0 0] 24) = W0 at *
    refine (H1.out _ B0).mono ?_
    rintro e w2 ⟨rfl, b2⟩
    have G4 := G2.behind b2
    have g0 := G4.cell (i := 0) rfl
    have g1 := G4.cell (i := 1) rfl
    have g2 := G4.cell (i := 2) rfl
    have f0 := G4.f 0
    have f1 := G4.f 1
    have f2 := G4.f 2
    have HB2 := Lib.hid (below_both B0 b2)
    go_wp2
    exact bodyPost_ret (v := .tuple #[.agg #[.int .i64 0, .int .i64 0, .slice none 0 0], .int .i64 ea]) (by simp [results, Try.results38, go_sem, g0, g1, g2]) rfl
      ⟨0, 0, none, 0, 0, by rw [HT.out.1], by rw [HZD.out, if_neg (by rw [HT.out.1]; exact HT.out.2)]; exact new_nil _ hpos (HB2.out.put3 (by omega) _ _ _), fun h => absurd (HT.out.1.symm.trans h) HT.out.2, HB2.out.put3 (by omega) _ _ _⟩
end Go.Proofs.Ytjapilpjahhimaa
