/- mat: Paste. -/
import Derived.Test.YtdcebkhdnhdejaaMaPart
namespace Go.Proofs.Ytdcebkhdnhdejaa
open Go.RowKit Go.Shelf
/-- the first k rows of ys, put into xs from row i and column j on -/
def pasK (R C i j bc : Nat) (xs ys : List Nat) (k : Nat) : List Nat := rowV (R * C) fun p => if i ≤ p / C ∧ p / C < i + k ∧ j ≤ p % C ∧ p % C < j + bc then lim ys ((p / C - i) * bc + (p % C - j)) else lim xs p
theorem pasK_zero {R C i j bc : Nat} {xs ys : List Nat} (h : xs.length = R * C) : pasK R C i j bc xs ys 0 = xs := by
  refine ext_lim (by unfold pasK; rw [rowV_length, h]) fun p hp => ?_
  unfold pasK at hp ⊢
  rw [rowV_length] at hp
  rw [rowV_lim _ hp, if_neg (by omega)]
theorem pasK_succ {R C i j br bc k : Nat} {xs ys : List Nat} (hk : k < br) (hi : i + br ≤ R) (hj : j + bc ≤ C) (_hb : 1 ≤ bc) (_hy : ys.length = br * bc) :
    splice (zn (pasK R C i j bc xs ys k)) ((i + k) * C + j) (zn (partW ys (k * bc) bc)) = zn (pasK R C i j bc xs ys (k + 1)) := by
  rw [zn_splice]
  congr 1
  have hC : 0 < C := by omega
  have hl : (pasK R C i j bc xs ys k).length = R * C := rowV_length _ _
  have hpl : (partW ys (k * bc) bc).length = bc := partW_length _ _ _
  have hr1 : (i + k) * C + C ≤ R * C := by
    have := Nat.mul_le_mul_right C (show i + k + 1 ≤ R by omega)
    rwa [Nat.add_mul, Nat.one_mul] at this
  have hfit : (i + k) * C + j + (partW ys (k * bc) bc).length ≤ (pasK R C i j bc xs ys k).length := by rw [hl, hpl]; omega
  refine ext_lim (by rw [length_splice _ _ _ hfit, hl]; exact (rowV_length _ _).symm) fun p hp => ?_
  rw [length_splice _ _ _ hfit, hl] at hp
  rw [lim_splice hfit, hpl]
  unfold pasK
  rw [rowV_lim _ hp, rowV_lim _ hp]
  have e0 := Nat.div_add_mod p C
  have e1 := Nat.mod_lt p hC
  rw [Nat.mul_comm] at e0
  generalize p / C = q at *
  generalize p % C = s at *
  have c1 : q < i + k → q * C + C ≤ (i + k) * C := fun h => by
    have := Nat.mul_le_mul_right C (show q + 1 ≤ i + k from h)
    rwa [Nat.add_mul, Nat.one_mul] at this
  have c2 : i + k < q → (i + k) * C + C ≤ q * C := fun h => by
    have := Nat.mul_le_mul_right C (show i + k + 1 ≤ q from h)
    rwa [Nat.add_mul, Nat.one_mul] at this
  by_cases hq : q = i + k
  · subst hq
    by_cases hs : j ≤ s ∧ s < j + bc
    · rw [if_pos (by omega), if_pos (by omega), partW_at (by omega)]
      congr 1
      rw [show i + k - i = k by omega]
      omega
    · rw [if_neg (by omega), if_neg (by omega), if_neg (by omega)]
  · have hno : ¬ ((i + k) * C + j ≤ p ∧ p < (i + k) * C + j + bc) := by
      rcases Nat.lt_or_gt_of_ne hq with h | h
      · have := c1 h; omega
      · have := c2 h; omega
    rw [if_neg hno]
    by_cases h1 : i ≤ q ∧ q < i + k ∧ j ≤ s ∧ s < j + bc
    · rw [if_pos h1, if_pos (by omega)]
    · rw [if_neg h1, if_neg (by omega)]
def pasE (R C : Int) (m : Nat) (R2 C2 : Int) (n : Nat) (i j : Int) : Int := if mayM R C m = false then 11 else if mayM R2 C2 n = false then 11 else if outP R C i j R2 C2 = true then 4 else 0
def pasV (R C i j R2 C2 : Int) (xs ys : List Nat) : List Nat := pasK R.toNat C.toNat i.toNat j.toNat C2.toNat xs ys R2.toNat
theorem ms_put4 {W : World} {g : Nat} {a b c d x y z u : Value} {t : TypeId} (hM : Ms W g #[a, b, c, d] t) : Ms ((((W.setCell ⟨g, 0, none⟩ x).setCell ⟨g, 1, none⟩ y).setCell ⟨g, 2, none⟩ z).setCell ⟨g, 3, none⟩ u) g #[x, y, z, u] t := (((hM.set 0 x).set 1 y).set 2 z).set 3 u
theorem new_ms {W v : World} {cs : Array Value} {t : TypeId} (h : Below (W.alloc (.cells cs t)).heap.size (W.alloc (.cells cs t)) v) : Ms v W.heap.size cs t := (mbox W cs t _ rfl).2.behind h
theorem new_msd {W v : World} {cs : Array Value} {t : TypeId} (h : Below (W.alloc (.cells cs t)).drew.heap.size (W.alloc (.cells cs t)).drew v) : Ms v W.heap.size cs t := (show Ms (W.alloc (.cells cs t)).drew W.heap.size cs t from (mbox W cs t _ rfl).2).behind h
set_option maxRecDepth 100000 in
set_option maxHeartbeats 16000000 in
theorem mat_paste_no {R C R2 C2 i j : Int} {a b : Option Addr} {m n cap cap2 : Nat} {w : World} (hne : pasE R C m R2 C2 n i j ≠ 0) :
    Calls Try.prog 34 #[.agg #[.int .i64 R, .int .i64 C, .slice a m cap], .agg #[.int .i64 R2, .int .i64 C2, .slice b n cap2], .int .i64 i, .int .i64 j] w fun e W' => e = .returned (.tuple #[.agg #[.int .i64 0, .int .i64 0, .slice none 0 0], .int .i64 (pasE R C m R2 C2 n i j)]) ∧ Below w.heap.size w W' := by
  obtain ⟨B0, G1, G2, hw1⟩ := vboxm w #[.int .i64 R, .int .i64 C, .slice a m cap] #[.int .i64 R2, .int .i64 C2, .slice b n cap2] 24 24 _ rfl
  obtain ⟨j3, G3⟩ := mbox ((w.alloc (.cells #[.int .i64 R, .int .i64 C, .slice a m cap] 24)).alloc (.cells #[.int .i64 R2, .int .i64 C2, .slice b n cap2] 24)) #[.int .i64 0, .int .i64 0, .slice none 0 0] 24 _ rfl
  replace G1 := G1.behind j3
  replace G2 := G2.behind j3
  replace B0 := below_both B0 j3
  simp only [World.size_alloc] at G3
  have hsz : (((w.alloc (.cells #[.int .i64 R, .int .i64 C, .slice a m cap] 24)).alloc (.cells #[.int .i64 R2, .int .i64 C2, .slice b n cap2] 24)).alloc (.cells #[.int .i64 0, .int .i64 0, .slice none 0 0] 24)).heap.size = w.heap.size + 3 := by simp only [World.size_alloc]
  have H1 := Lib.hid (fun w => shape_check (a := a) (m := m) (cap := cap) (R := R) (C := C) (w := w))
  have H2 := Lib.hid (fun w => shape_check (a := b) (m := n) (cap := cap2) (R := R2) (C := C2) (w := w))
  have y0 : ∀ w : World, (Instr.index 100 (.agg #[.int .i64 R, .int .i64 C, .slice a m cap, .int .i64 R2, .int .i64 C2, .slice b n cap2]) (.int .i64 0)).run Try.prog w = .ok (.agg #[.int .i64 R, .int .i64 C, .slice a m cap]) w := fun _ => by kernel_rfl
  have y1 : ∀ w : World, (Instr.index 100 (.agg #[.int .i64 R, .int .i64 C, .slice a m cap, .int .i64 R2, .int .i64 C2, .slice b n cap2]) (.int .i64 1)).run Try.prog w = .ok (.agg #[.int .i64 R2, .int .i64 C2, .slice b n cap2]) w := fun _ => by kernel_rfl
  obtain ⟨E, hE⟩ : ∃ z, z = pasE R C m R2 C2 n i j := ⟨_, rfl⟩
  rw [← hE]
  have HE := Lib.hid hE
  have HNE : Hid (E ≠ 0) := Lib.hid (by rw [hE]; exact hne)
  have HC1 : Hid (chkM R C m = if mayM R C m then 0 else 11) := Lib.hid rfl
  have HC2 : Hid (chkM R2 C2 n = if mayM R2 C2 n then 0 else 11) := Lib.hid rfl
  clear hE hne hw1 j3
  have c0 := G1.cell (i := 0) rfl
  have c1 := G1.cell (i := 1) rfl
  have c2 := G1.cell (i := 2) rfl
  have d0 := G2.cell (i := 0) rfl
  have d1 := G2.cell (i := 1) rfl
  have d2 := G2.cell (i := 2) rfl
  go_enter Try.func34, Try.ntmps34
  go_wp2
  generalize ((w.alloc (.cells #[.int .i64 R, .int .i64 C, .slice a m cap] 24)).alloc (.cells #[.int .i64 R2, .int .i64 C2, .slice b n cap2] 24)).alloc (.cells #[.int .i64 0, .int .i64 0, .slice none 0 0] 24) = W0 at *
  have HSZ := Lib.hid hsz
  clear hsz
  go_loopw [20] (fun i wr => ∃ (k : Nat) (z : Int), k ≤ 2 ∧ z = k ∧ i = .int .i64 z ∧ Hid (1 ≤ k → mayM R C m = true) ∧ Hid (2 ≤ k → mayM R2 C2 n = true) ∧ Below W0.heap.size W0 wr) (fun i _ => 2 - (intOf i).toNat)
  case atStart => exact ⟨0, 0, by omega, rfl, rfl, Lib.hid (fun h => absurd h (by decide)), Lib.hid (fun h => absurd h (by decide)), Below.refl _ _⟩
  case round =>
    obtain ⟨k, z, hk, hz, rfl, HE1, HE2, hB⟩ := hrel
    rcases (show k = 0 ∨ k = 1 ∨ k = 2 by omega) with rfl | rfl | rfl
    · obtain rfl : z = 0 := hz
      have hc := HC1.out
      cases hm : mayM R C m
      · as_aux_lemma =>
        rw [hm, if_neg (by decide)] at hc
        have HT : Hid (E = 11) := Lib.hid (by
          have : E = 11 := by rw [HE.out]; unfold pasE; rw [if_pos hm]
          exact this)
        have hH := H1.out
        rw [hc] at hH
        clear hm hc
        go_wp2_with fail
        have bA := bel_new wr (.cells #[.int .i64 R, .int .i64 C, .slice a m cap] 24)
        refine (hH _).mono ?_
        rintro e w2 ⟨rfl, b2⟩
        have BR := below_both hB (below_both bA b2)
        have G9 := G3.behind BR
        have g0 := G9.cell (i := 0) rfl
        have g1 := G9.cell (i := 1) rfl
        have g2 := G9.cell (i := 2) rfl
        have f0 := G9.f 0
        have f1 := G9.f 1
        have f2 := G9.f 2
        have HB9 := Lib.hid (below_both B0 BR)
        clear G9
        go_wp2
        exact bodyPost_ret (v := .tuple #[.agg #[.int .i64 0, .int .i64 0, .slice none 0 0], .int .i64 11]) (by simp [results, Try.results34, go_sem, g0, g1, g2]) rfl
          ⟨by rw [HT.out], HB9.out.put3 (by omega) _ _ _⟩
      · rw [hm, if_pos rfl] at hc
        have HM := Lib.hid hm
        have hH := H1.out
        rw [hc] at hH
        clear hm hc
        go_wp2_with fail
        have bA := bel_new wr (.cells #[.int .i64 R, .int .i64 C, .slice a m cap] 24)
        refine (hH _).mono ?_
        rintro e w2 ⟨rfl, b2⟩
        go_wp2
        exact ⟨⟨1, 1, by omega, rfl, rfl, Lib.hid (by first | (intro _; first | exact HM.out | trivial) | trivial), Lib.hid (fun h => absurd h (by decide)), below_both hB (below_both bA b2)⟩, by simp [intOf]⟩
    · obtain rfl : z = 1 := hz
      have hc := HC2.out
      cases hm : mayM R2 C2 n
      · as_aux_lemma =>
        rw [hm, if_neg (by decide)] at hc
        have HT : Hid (E = 11) := Lib.hid (by
          have : E = 11 := by rw [HE.out]; unfold pasE; rw [if_neg (by rw [HE1.out (by omega)]; decide), if_pos hm]
          exact this)
        have hH := H2.out
        rw [hc] at hH
        clear hm hc
        go_wp2_with fail
        have bA := bel_new wr (.cells #[.int .i64 R2, .int .i64 C2, .slice b n cap2] 24)
        refine (hH _).mono ?_
        rintro e w2 ⟨rfl, b2⟩
        have BR := below_both hB (below_both bA b2)
        have G9 := G3.behind BR
        have g0 := G9.cell (i := 0) rfl
        have g1 := G9.cell (i := 1) rfl
        have g2 := G9.cell (i := 2) rfl
        have f0 := G9.f 0
        have f1 := G9.f 1
        have f2 := G9.f 2
        have HB9 := Lib.hid (below_both B0 BR)
        clear G9
        go_wp2
        exact bodyPost_ret (v := .tuple #[.agg #[.int .i64 0, .int .i64 0, .slice none 0 0], .int .i64 11]) (by simp [results, Try.results34, go_sem, g0, g1, g2]) rfl
          ⟨by rw [HT.out], HB9.out.put3 (by omega) _ _ _⟩
      · rw [hm, if_pos rfl] at hc
        have HM := Lib.hid hm
        have hH := H2.out
        rw [hc] at hH
        clear hm hc
        go_wp2_with fail
        have bA := bel_new wr (.cells #[.int .i64 R2, .int .i64 C2, .slice b n cap2] 24)
        refine (hH _).mono ?_
        rintro e w2 ⟨rfl, b2⟩
        go_wp2
        exact ⟨⟨2, 2, by omega, rfl, rfl, Lib.hid (by first | (intro _; first | exact HE1.out (by omega) | trivial) | trivial), Lib.hid (by first | (intro _; first | exact HM.out | trivial) | trivial), below_both hB (below_both bA b2)⟩, by simp [intOf]⟩
    · obtain rfl : z = 2 := hz
      have hm1 := HE1.out (by omega)
      have hm2 := HE2.out (by omega)
      obtain ⟨w1, rfl⟩ : ∃ wo, wo = wr := ⟨_, rfl⟩
      have K1 := G1.behind hB
      have K2 := G2.behind hB
      have K3 := G3.behind hB
      have BW := below_both B0 hB
      have HWH := Lib.hid (fun w => view_whole (R := R) (C := C) (a := a) (m := m) (cap := cap) (w := w))
      have HK : Hid (∀ W, Below w1.heap.size w1 W → W.cell? ⟨w.heap.size, 0, none⟩ = some (.int .i64 R) ∧ W.cell? ⟨w.heap.size, 1, none⟩ = some (.int .i64 C) ∧ W.cell? ⟨w.heap.size, 2, none⟩ = some (.slice a m cap) ∧ W.cell? ⟨w.heap.size + 1, 0, none⟩ = some (.int .i64 R2) ∧ W.cell? ⟨w.heap.size + 1, 1, none⟩ = some (.int .i64 C2)) := Lib.hid (fun W h =>
        ⟨(K1.behind h).cell (i := 0) rfl, (K1.behind h).cell (i := 1) rfl, (K1.behind h).cell (i := 2) rfl, (K2.behind h).cell (i := 0) rfl, (K2.behind h).cell (i := 1) rfl⟩)
      have Br : Below w1.heap.size w1 w1 := Below.refl _ _
      have hv := (may_view hm1).1
      clear y0 y1 H1 H2 HC1 HC2 HE1 HE2
      cases ho : outP R C i j R2 C2
      · exact absurd (by rw [HE.out]; unfold pasE; rw [if_neg (by rw [hm1]; decide), if_neg (by rw [hm2]; decide), if_neg (by rw [ho]; decide)]) HNE.out
      · have HPA := Lib.hid (fun w => view_part_out (R := R) (C := C) (S := C) (O := 0) (i := i) (j := j) (rows := R2) (cols := C2) (w := w) hv ho)
        have HT : Hid (E = 4) := Lib.hid (by
          have : E = 4 := by rw [HE.out]; unfold pasE; rw [if_neg (by rw [hm1]; decide), if_neg (by rw [hm2]; decide), if_pos ho]
          exact this)
        clear ho hm1 hm2 hv
        go_upto_region 8 with (fail)
        go_cut [13, 14] from 30 to 41 (fun p u wx => ∃ g : Nat, p = .pointer (some ⟨g, 0, none⟩) ∧ u = .int .i64 4 ∧ w1.heap.size ≤ g ∧ Ms wx g #[.int .i64 0, .int .i64 0, .int .i64 0, .int .i64 0] 95 ∧ Below w1.heap.size w1 wx)
        case first =>
         as_aux_lemma =>
          go_region_held3 (fun W => W.cell? ⟨w.heap.size, 0, none⟩ = some (.int .i64 R) ∧ W.cell? ⟨w.heap.size, 1, none⟩ = some (.int .i64 C) ∧ W.cell? ⟨w.heap.size, 2, none⟩ = some (.slice a m cap) ∧ W.cell? ⟨w.heap.size + 1, 0, none⟩ = some (.int .i64 R2) ∧ W.cell? ⟨w.heap.size + 1, 1, none⟩ = some (.int .i64 C2))
            (first | with_reducible exact HK.out _ Br | with_reducible exact HK.out _ Br.drew | with_reducible exact HK.out _ (Br.alloc Br.size _) | with_reducible exact HK.out _ (Br.alloc Br.size _).drew | with_reducible exact HK.out _ (Br.drew.alloc Br.drew.size _) | with_reducible exact HK.out _ (Br.drew.alloc Br.drew.size _).drew | with_reducible exact HK.out _ (Br.put4 F.1 _ _ _ _) | with_reducible exact HK.out _ (Br.drew.put4 F.1 _ _ _ _) | (trace_state; fail))
            (first
              | (go_at_call 80; (with_reducible refine (HWH.out _).mono ?_); rintro e v4 ⟨rfl, bz⟩; (first | (replace F := And.intro F.1 (F.2.behind bz)) | (with_reducible have F : _ ∧ _ := ⟨Br.size, new_ms bz⟩) | (with_reducible have F : _ ∧ _ := ⟨Br.size, new_msd bz⟩) | (with_reducible have F : _ ∧ _ := ⟨Br.drew.size, new_ms bz⟩) | (with_reducible have F : _ ∧ _ := ⟨Br.drew.size, new_msd bz⟩) | skip); (first | replace Br := below_both Br bz | replace Br := below_both Br.drew bz | replace Br := below_both (Br.alloc Br.size _) bz | replace Br := below_both (Br.alloc Br.size _).drew bz | replace Br := below_both (Br.drew.alloc Br.drew.size _) bz | replace Br := below_both (Br.drew.alloc Br.drew.size _).drew bz); clear bz)
              | (go_at_call 79; (with_reducible refine (HPA.out _).mono ?_); rintro e v5 ⟨rfl, bz⟩; (first | (replace F := And.intro F.1 (F.2.behind bz)) | (with_reducible have F : _ ∧ _ := ⟨Br.size, new_ms bz⟩) | (with_reducible have F : _ ∧ _ := ⟨Br.size, new_msd bz⟩) | (with_reducible have F : _ ∧ _ := ⟨Br.drew.size, new_ms bz⟩) | (with_reducible have F : _ ∧ _ := ⟨Br.drew.size, new_msd bz⟩) | skip); (first | replace Br := below_both Br bz | replace Br := below_both Br.drew bz | replace Br := below_both (Br.alloc Br.size _) bz | replace Br := below_both (Br.alloc Br.size _).drew bz | replace Br := below_both (Br.drew.alloc Br.drew.size _) bz | replace Br := below_both (Br.drew.alloc Br.drew.size _).drew bz); clear bz; (first | (have z0 := F.2.cell (i := 0) rfl; have z1 := F.2.cell (i := 1) rfl; have z2 := F.2.cell (i := 2) rfl; have z3 := F.2.cell (i := 3) rfl; have h0 := F.2.f 0; have h1 := F.2.f 1; have h2 := F.2.f 2; have h3 := F.2.f 3) | skip)))
          all_goals
            go_wp2_with fail
            go_meet
            first
            | exact ⟨_, rfl, rfl, Br.size, (mbox _ #[.int .i64 0, .int .i64 0, .int .i64 0, .int .i64 0] 95 _ rfl).2, Br.alloc Br.size _⟩
            | exact ⟨_, rfl, rfl, F.1, ms_put4 F.2, Br.put4 F.1 _ _ _ _⟩
        obtain ⟨g, rfl, rfl, hg, L, bw⟩ := hcut
        obtain ⟨w2, rfl⟩ : ∃ wo, wo = wc := ⟨_, rfl⟩
        have G9 := K3.behind bw
        have g0 := G9.cell (i := 0) rfl
        have g1 := G9.cell (i := 1) rfl
        have g2 := G9.cell (i := 2) rfl
        have f0 := G9.f 0
        have f1 := G9.f 1
        have f2 := G9.f 2
        have HB9 := Lib.hid (below_both BW bw)
        clear G9 L bw HK HWH HPA Br K1 K2 K3 BW
        go_wp2
        exact bodyPost_ret (v := .tuple #[.agg #[.int .i64 0, .int .i64 0, .slice none 0 0], .int .i64 4]) (by simp [results, Try.results34, go_sem, g0, g1, g2]) rfl
          ⟨by rw [HT.out], HB9.out.put3 (by omega) _ _ _⟩
end Go.Proofs.Ytdcebkhdnhdejaa
