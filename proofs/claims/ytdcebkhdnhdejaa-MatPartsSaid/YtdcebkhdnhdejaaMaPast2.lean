/- mat: Paste. -/
import Derived.Test.YtdcebkhdnhdejaaMaPaste
namespace Go.Proofs.Ytdcebkhdnhdejaa
open Go.RowKit Go.Shelf
set_option maxRecDepth 100000 in
set_option maxHeartbeats 16000000 in
theorem mat_paste {R C br bc i j : Nat} {a b : Option Addr} {m n cap cap2 : Nat} {xs ys : List Nat} {w : World} (hA : Arg w (.slice a m cap) xs) (hB : Arg w (.slice b n cap2) ys) (hm1 : mayM R C m = true) (hm2 : mayM br bc n = true) (h3 : i + br ≤ R) (h4 : j + bc ≤ C) :
    Calls Try.prog 34 #[.agg #[.int .i64 (R : Int), .int .i64 (C : Int), .slice a m cap], .agg #[.int .i64 (br : Int), .int .i64 (bc : Int), .slice b n cap2], .int .i64 (i : Int), .int .i64 (j : Int)] w fun e W' => ∃ b3 c3, e = .returned (.tuple #[.agg #[.int .i64 (R : Int), .int .i64 (C : Int), .slice b3 m c3], .int .i64 0]) ∧ New w.heap.size W' (.slice b3 m c3) (pasK R C i j bc xs ys br) ∧ Below w.heap.size w W' := by
  obtain ⟨p1, p2, p3, p4, p5⟩ := mayM_iff.1 hm1
  obtain ⟨r1, r2, r3, r4, r5⟩ := mayM_iff.1 hm2
  have hmn : m = R * C := by rw [← Int.natCast_mul] at p5; omega
  have hnn : n = br * bc := by rw [← Int.natCast_mul] at r5; omega
  have hRC : R * C ≤ 64 * 64 := Nat.mul_le_mul (by omega) (by omega)
  have hbb : 0 < br * bc := Nat.mul_pos (by omega) (by omega)
  have hRC0 : 0 < R * C := Nat.mul_pos (by omega) (by omega)
  have hxl : xs.length = m := by
    obtain ⟨a', c', e⟩ := hA.slice
    simp only [Value.slice.injEq] at e
    omega
  have hyl : ys.length = n := by
    obtain ⟨a', c', e⟩ := hB.slice
    simp only [Value.slice.injEq] at e
    omega
  have hB' := hB
  obtain ⟨S2, hS2, hR2⟩ := hB'
  obtain ⟨a', c', e', hcap2, hoff⟩ := hR2.slice
  simp only [Value.slice.injEq] at e'
  obtain ⟨off2, hof⟩ := hoff (by omega)
  obtain ⟨rfl, -, rfl⟩ := e'
  subst hof
  have ho : outP R C i j br bc = false := decide_eq_false (by omega)
  have hv := (may_view hm1).1
  obtain ⟨B0, G1, G2, hw1⟩ := vboxm w #[.int .i64 (R : Int), .int .i64 (C : Int), .slice a m cap] #[.int .i64 (br : Int), .int .i64 (bc : Int), .slice (some ⟨S2, off2, none⟩) n cap2] 24 24 _ rfl
  obtain ⟨j3, G3⟩ := mbox ((w.alloc (.cells #[.int .i64 (R : Int), .int .i64 (C : Int), .slice a m cap] 24)).alloc (.cells #[.int .i64 (br : Int), .int .i64 (bc : Int), .slice (some ⟨S2, off2, none⟩) n cap2] 24)) #[.int .i64 0, .int .i64 0, .slice none 0 0] 24 _ rfl
  replace G1 := G1.behind j3
  replace G2 := G2.behind j3
  replace B0 := below_both B0 j3
  simp only [World.size_alloc] at G3
  have hsz : (((w.alloc (.cells #[.int .i64 (R : Int), .int .i64 (C : Int), .slice a m cap] 24)).alloc (.cells #[.int .i64 (br : Int), .int .i64 (bc : Int), .slice (some ⟨S2, off2, none⟩) n cap2] 24)).alloc (.cells #[.int .i64 0, .int .i64 0, .slice none 0 0] 24)).heap.size = w.heap.size + 3 := by simp only [World.size_alloc]
  have H1 := fun w => shape_check (a := a) (m := m) (cap := cap) (R := (R : Int)) (C := (C : Int)) (w := w)
  have H2 := fun w => shape_check (a := some ⟨S2, off2, none⟩) (m := n) (cap := cap2) (R := (br : Int)) (C := (bc : Int)) (w := w)
  rw [show chkM R C m = 0 by unfold chkM; rw [hm1]; rfl] at H1
  rw [show chkM br bc n = 0 by unfold chkM; rw [hm2]; rfl] at H2
  have y0 : ∀ w : World, (Instr.index 100 (.agg #[.int .i64 (R : Int), .int .i64 (C : Int), .slice a m cap, .int .i64 (br : Int), .int .i64 (bc : Int), .slice (some ⟨S2, off2, none⟩) n cap2]) (.int .i64 0)).run Try.prog w = .ok (.agg #[.int .i64 (R : Int), .int .i64 (C : Int), .slice a m cap]) w := fun _ => by kernel_rfl
  have y1 : ∀ w : World, (Instr.index 100 (.agg #[.int .i64 (R : Int), .int .i64 (C : Int), .slice a m cap, .int .i64 (br : Int), .int .i64 (bc : Int), .slice (some ⟨S2, off2, none⟩) n cap2]) (.int .i64 1)).run Try.prog w = .ok (.agg #[.int .i64 (br : Int), .int .i64 (bc : Int), .slice (some ⟨S2, off2, none⟩) n cap2]) w := fun _ => by kernel_rfl
  have HWH := Lib.hid (fun w => view_whole (R := (R : Int)) (C := (C : Int)) (a := a) (m := m) (cap := cap) (w := w))
  have hpa := fun w => view_part (R := (R : Int)) (C := (C : Int)) (S := (C : Int)) (O := 0) (i := (i : Int)) (j := (j : Int)) (rows := (br : Int)) (cols := (bc : Int)) (w := w) hv ho
  obtain ⟨O, hO⟩ : ∃ O : Nat, O = i * C + j := ⟨_, rfl⟩
  rw [show (0 : Int) + (i : Int) * (C : Int) + (j : Int) = (O : Int) by rw [hO, Int.natCast_add, Int.natCast_mul, Int.zero_add]] at hpa
  have HPA := Lib.hid hpa
  have HCO := Lib.hid (fun (W : World) (h : Below w.heap.size w W) => mat_copied (R := (R : Int)) (C := (C : Int)) (hA.behind h) (by omega))
  have HRW : Hid (∀ k, k < br → ∀ W : World, _) := Lib.hid (fun k (hk : k < br) (W : World) => mat_row (S := S2) (off := off2) (m := n) (cap := cap2) (C := bc) (i := k) (R := (br : Int)) (w := W) (by omega) (by omega) (by omega) (by
    have := Nat.mul_le_mul_right bc (show k + 1 ≤ br by omega)
    rw [Nat.add_mul, Nat.one_mul] at this
    omega) (by omega))
  have HSRC : Hid (∀ k, k < br → ∀ W : World, Below w.heap.size w W → ∀ (q : Nat) v, (valsK .u64 (zn (partW ys (k * bc) bc)))[q]? = some v → W.cell? ((⟨S2, off2 + k * bc, none⟩ : Addr).add q) = some v) := Lib.hid (fun k hk W hW q v hq => by
    have hl : q < (zn (partW ys (k * bc) bc)).length := by
      have := (List.getElem?_eq_some_iff.1 hq).1
      rwa [valsK_length] at this
    rw [valsK_get hl] at hq
    have hl2 : q < (partW ys (k * bc) bc).length := by rwa [zn_length] at hl
    rw [zn_at hl2] at hq
    rw [partW_length] at hl2
    rw [partW_at hl2] at hq
    have h1 := Nat.mul_le_mul_right bc (show k + 1 ≤ br by omega)
    rw [Nat.add_mul, Nat.one_mul] at h1
    have h2 := (hR2.kept (hW.block S2 (by omega))).cell (j := k * bc + q) (by omega)
    rw [← Nat.add_assoc] at h2
    have ha : (⟨S2, off2 + k * bc, none⟩ : Addr).add q = ⟨S2, off2 + k * bc + q, none⟩ := by unfold Addr.add; split <;> simp_all
    rw [ha]
    exact h2.trans hq)
  have HGR := Lib.hid (fun k (hk : k < br) => pasK_succ (R := R) (C := C) (i := i) (j := j) (bc := bc) (xs := xs) (ys := ys) hk h3 h4 (by omega) (by omega))
  have HP0 := Lib.hid (pasK_zero (R := R) (C := C) (i := i) (j := j) (bc := bc) (ys := ys) (hxl.trans hmn))
  have HFI : Hid (∀ k, k < br → k * C < 4096 ∧ O + k * C < 4096 ∧ O + k * C + bc ≤ m ∧ O + k * C = (i + k) * C + j) := Lib.hid (fun k hk => by
    have e1 := Nat.mul_le_mul_right C (show i + k + 1 ≤ R by omega)
    rw [Nat.add_mul, Nat.one_mul] at e1
    have e2 : (i + k) * C = i * C + k * C := Nat.add_mul _ _ _
    rw [e2] at e1 ⊢
    omega)
  have HLN : Hid (∀ k, (zn (pasK R C i j bc xs ys k)).length = m) := Lib.hid (fun k => by rw [zn_length]; unfold pasK; rw [rowV_length]; exact hmn.symm)
  have hbc0 : 0 < bc := by omega
  have hbc1 : bc ≤ 64 := by omega
  have hbr1 : br ≤ 64 := by omega
  have hC1 : C ≤ 64 := by omega
  have hm0 : 0 < m := by omega
  have hl0 : (zn xs).length = m := by rw [zn_length]; exact hxl
  obtain ⟨Pk, hPk⟩ : ∃ f, f = pasK R C i j bc xs ys := ⟨_, rfl⟩
  rw [← hPk] at HGR HP0 HLN
  rw [← hPk]
  clear hA hB hm1 hm2 h3 h4 p1 p2 p3 p4 p5 r1 r2 r3 r4 r5 hmn hnn hRC hbb hRC0 hxl hyl hR2 ho hv hw1 j3 hO hpa hPk hoff hcap2 hS2
  have c0 := G1.cell (i := 0) rfl
  have c1 := G1.cell (i := 1) rfl
  have c2 := G1.cell (i := 2) rfl
  have d0 := G2.cell (i := 0) rfl
  have d1 := G2.cell (i := 1) rfl
  have d2 := G2.cell (i := 2) rfl
  go_enter Try.func34, Try.ntmps34
  go_wp2
  generalize ((w.alloc (.cells #[.int .i64 (R : Int), .int .i64 (C : Int), .slice a m cap] 24)).alloc (.cells #[.int .i64 (br : Int), .int .i64 (bc : Int), .slice (some ⟨S2, off2, none⟩) n cap2] 24)).alloc (.cells #[.int .i64 0, .int .i64 0, .slice none 0 0] 24) = W0 at *
  have HSZ := Lib.hid hsz
  clear hsz
  go_loopw [20] (fun i wr => ∃ (k : Nat) (z : Int), k ≤ 2 ∧ z = k ∧ i = .int .i64 z ∧ Below W0.heap.size W0 wr) (fun i _ => 2 - (intOf i).toNat)
  case atStart => exact ⟨0, 0, by omega, rfl, rfl, Below.refl _ _⟩
  case round =>
    obtain ⟨k, z, hk, hz, rfl, hB⟩ := hrel
    rcases (show k = 0 ∨ k = 1 ∨ k = 2 by omega) with rfl | rfl | rfl
    · as_aux_lemma =>
      obtain rfl : z = 0 := hz
      go_wp2_with fail
      have bA := bel_new wr (.cells #[.int .i64 (R : Int), .int .i64 (C : Int), .slice a m cap] 24)
      refine (H1 _).mono ?_
      rintro e w2 ⟨rfl, b2⟩
      go_wp2
      exact ⟨⟨1, 1, by omega, rfl, rfl, below_both hB (below_both bA b2)⟩, by simp [intOf]⟩
    · as_aux_lemma =>
      obtain rfl : z = 1 := hz
      go_wp2_with fail
      have bA := bel_new wr (.cells #[.int .i64 (br : Int), .int .i64 (bc : Int), .slice (some ⟨S2, off2, none⟩) n cap2] 24)
      refine (H2 _).mono ?_
      rintro e w2 ⟨rfl, b2⟩
      go_wp2
      exact ⟨⟨2, 2, by omega, rfl, rfl, below_both hB (below_both bA b2)⟩, by simp [intOf]⟩
    · obtain rfl : z = 2 := hz
      obtain ⟨w1, rfl⟩ : ∃ wo, wo = wr := ⟨_, rfl⟩
      have K1 := G1.behind hB
      have K2 := G2.behind hB
      have K3 := G3.behind hB
      have BW := below_both B0 hB
      have HK : Hid (∀ W, Below w1.heap.size w1 W → W.cell? ⟨w.heap.size, 0, none⟩ = some (.int .i64 (R : Int)) ∧ W.cell? ⟨w.heap.size, 1, none⟩ = some (.int .i64 (C : Int)) ∧ W.cell? ⟨w.heap.size, 2, none⟩ = some (.slice a m cap) ∧ W.cell? ⟨w.heap.size + 1, 0, none⟩ = some (.int .i64 (br : Int)) ∧ W.cell? ⟨w.heap.size + 1, 1, none⟩ = some (.int .i64 (bc : Int))) := Lib.hid (fun W h =>
        ⟨(K1.behind h).cell (i := 0) rfl, (K1.behind h).cell (i := 1) rfl, (K1.behind h).cell (i := 2) rfl, (K2.behind h).cell (i := 0) rfl, (K2.behind h).cell (i := 1) rfl⟩)
      have Br : Below w1.heap.size w1 w1 := Below.refl _ _
      clear y0 y1 H1 H2
      go_upto_region 8 with (fail)
      go_cut [13, 14] from 30 to 41 (fun p u wx => ∃ g : Nat, p = .pointer (some ⟨g, 0, none⟩) ∧ u = .int .i64 0 ∧ w1.heap.size ≤ g ∧ Ms wx g #[.int .i64 (br : Int), .int .i64 (bc : Int), .int .i64 (C : Int), .int .i64 (O : Int)] 95 ∧ Below w1.heap.size w1 wx)
      case first =>
       as_aux_lemma =>
        go_region_held3 (fun W => W.cell? ⟨w.heap.size, 0, none⟩ = some (.int .i64 (R : Int)) ∧ W.cell? ⟨w.heap.size, 1, none⟩ = some (.int .i64 (C : Int)) ∧ W.cell? ⟨w.heap.size, 2, none⟩ = some (.slice a m cap) ∧ W.cell? ⟨w.heap.size + 1, 0, none⟩ = some (.int .i64 (br : Int)) ∧ W.cell? ⟨w.heap.size + 1, 1, none⟩ = some (.int .i64 (bc : Int)))
          (first | with_reducible exact HK.out _ Br | with_reducible exact HK.out _ Br.drew | with_reducible exact HK.out _ (Br.alloc Br.size _) | with_reducible exact HK.out _ (Br.alloc Br.size _).drew | with_reducible exact HK.out _ (Br.drew.alloc Br.drew.size _) | with_reducible exact HK.out _ (Br.drew.alloc Br.drew.size _).drew | with_reducible exact HK.out _ (Br.put4 F.1 _ _ _ _) | with_reducible exact HK.out _ (Br.drew.put4 F.1 _ _ _ _) | (trace_state; fail))
          (first
            | (go_at_call 80; (with_reducible refine (HWH.out _).mono ?_); rintro e v4 ⟨rfl, bz⟩; (first | (replace F := And.intro F.1 (F.2.behind bz)) | (with_reducible have F : _ ∧ _ := ⟨Br.size, new_ms bz⟩) | (with_reducible have F : _ ∧ _ := ⟨Br.size, new_msd bz⟩) | (with_reducible have F : _ ∧ _ := ⟨Br.drew.size, new_ms bz⟩) | (with_reducible have F : _ ∧ _ := ⟨Br.drew.size, new_msd bz⟩) | skip); (first | replace Br := below_both Br bz | replace Br := below_both Br.drew bz | replace Br := below_both (Br.alloc Br.size _) bz | replace Br := below_both (Br.alloc Br.size _).drew bz | replace Br := below_both (Br.drew.alloc Br.drew.size _) bz | replace Br := below_both (Br.drew.alloc Br.drew.size _).drew bz); clear bz)
            | (go_at_call 79; (with_reducible refine (HPA.out _).mono ?_); rintro e v5 ⟨rfl, bz⟩; (first | (replace F := And.intro F.1 (F.2.behind bz)) | (with_reducible have F : _ ∧ _ := ⟨Br.size, new_ms bz⟩) | (with_reducible have F : _ ∧ _ := ⟨Br.size, new_msd bz⟩) | (with_reducible have F : _ ∧ _ := ⟨Br.drew.size, new_ms bz⟩) | (with_reducible have F : _ ∧ _ := ⟨Br.drew.size, new_msd bz⟩) | skip); (first | replace Br := below_both Br bz | replace Br := below_both Br.drew bz | replace Br := below_both (Br.alloc Br.size _) bz | replace Br := below_both (Br.alloc Br.size _).drew bz | replace Br := below_both (Br.drew.alloc Br.drew.size _) bz | replace Br := below_both (Br.drew.alloc Br.drew.size _).drew bz); clear bz; (first | (have z0 := F.2.cell (i := 0) rfl; have z1 := F.2.cell (i := 1) rfl; have z2 := F.2.cell (i := 2) rfl; have z3 := F.2.cell (i := 3) rfl; have h0 := F.2.f 0; have h1 := F.2.f 1; have h2 := F.2.f 2; have h3 := F.2.f 3) | skip)))
        all_goals
          go_wp2_with fail
          go_meet
          first
          | exact ⟨_, rfl, rfl, Br.size, (mbox _ #[.int .i64 (br : Int), .int .i64 (bc : Int), .int .i64 (C : Int), .int .i64 (O : Int)] 95 _ rfl).2, Br.alloc Br.size _⟩
          | exact ⟨_, rfl, rfl, F.1, ms_put4 F.2, Br.put4 F.1 _ _ _ _⟩
      obtain ⟨gv, rfl, rfl, hg, L, bw⟩ := hcut
      obtain ⟨w4, rfl⟩ : ∃ wo, wo = wc := ⟨_, rfl⟩
      replace K1 := K1.behind bw
      replace K2 := K2.behind bw
      replace K3 := K3.behind bw
      replace BW := below_both BW bw
      have c0 := K1.cell (i := 0) rfl
      have c1 := K1.cell (i := 1) rfl
      have c2 := K1.cell (i := 2) rfl
      clear HK HWH HPA Br bw B0 hB
      go_wp2_with fail
      refine (HCO.out _ BW).mono ?_
      rintro e w5 ⟨b5, c5, rfl, hO5, k5⟩
      obtain ⟨g5, cg, eg, hg5, hg5b⟩ := hO5.form (by rw [hl0]; exact hm0)
      simp only [Value.slice.injEq] at eg
      obtain ⟨rfl, -, -⟩ := eg
      clear cg
      have n1 := K2.lt
      have n2 := K3.lt
      have n3 := L.lt
      have n4 := BW.size
      replace K2 := K2.behind k5
      replace K3 := K3.behind k5
      replace L := L.behind k5
      replace BW := below_both BW k5
      obtain ⟨b6, LO⟩ := mbox w5 #[.int .i64 (R : Int), .int .i64 (C : Int), .slice (some ⟨g5, 0, none⟩) m c5] 24 _ rfl
      replace K2 := K2.behind b6
      replace K3 := K3.behind b6
      replace L := L.behind b6
      replace hO5 := hO5.below b6
      have HBW := Lib.hid (below_both BW b6)
      have d0 := K2.cell (i := 0) rfl
      clear BW k5 b6 c0 c1 c2 K1 HCO
      go_wp2
      generalize w5.alloc (.cells #[.int .i64 (R : Int), .int .i64 (C : Int), .slice (some ⟨g5, 0, none⟩) m c5] 24) = w6 at *
      have hmc : m ≤ c5 := by
        have h := hO5
        unfold OwnK World.ownsRow at h
        rcases h.2 with ⟨e, _⟩ | ⟨g', cap', cur, e, hb, hg, hc1, hc2, hc3, hc4⟩
        · simp at e
        · simp only [Value.slice.injEq, Option.some.injEq, Addr.mk.injEq, and_true] at e
          omega
      have n5 := LO.lt
      go_loopw [50] (fun i wr => ∃ (k : Nat) (z : Int), k ≤ br ∧ z = k ∧ i = .int .i64 z ∧ OwnK .u64 32 w4.heap.size wr (.slice (some ⟨g5, 0, none⟩) m c5) (zn (Pk k)) ∧ Ms wr w5.heap.size #[.int .i64 (R : Int), .int .i64 (C : Int), .slice (some ⟨g5, 0, none⟩) m c5] 24 ∧ Ms wr (w.heap.size + 1) #[.int .i64 (br : Int), .int .i64 (bc : Int), .slice (some ⟨S2, off2, none⟩) n cap2] 24 ∧ Ms wr (w.heap.size + 1 + 1) #[.int .i64 0, .int .i64 0, .slice none 0 0] 24 ∧ Ms wr gv #[.int .i64 (br : Int), .int .i64 (bc : Int), .int .i64 (C : Int), .int .i64 (O : Int)] 95 ∧ Below w.heap.size w wr) (fun i _ => br - (intOf i).toNat)
      case atStart => exact ⟨0, 0, by omega, rfl, rfl, by rw [HP0.out]; exact hO5, LO, K2, K3, L, HBW.out⟩
      case round =>
        clear hO5 LO K2 K3 L HBW d0 c0 c1 c2 d1 d2
        obtain ⟨k, z, hk, hz, rfl, O5, LO, K2, K3, L, BW⟩ := hrel
        obtain ⟨wk, rfl⟩ : ∃ wo, wo = wr := ⟨_, rfl⟩
        by_cases hlt : k < br
        · obtain ⟨q1, q2, q3, q4⟩ := HFI.out k hlt
          subst hz
          have q : decide ((k : Int) < (br : Int)) = true := decide_eq_true (by omega)
          have d0 := K2.cell (i := 0) rfl
          have HQ3 := Lib.hid q3
          have HG := HGR.out k hlt
          rw [← q4] at HG
          have e1 : IntKind.i64.wrap ((k : Int) * (C : Int)) = ((k * C : Nat) : Int) := by rw [Int.natCast_mul]; exact IntWalk.i64_in _ (by rw [← Int.natCast_mul]; omega)
          have e2 : IntKind.i64.wrap ((O : Int) + ((k * C : Nat) : Int)) = ((O + k * C : Nat) : Int) := by rw [Int.natCast_add]; exact IntWalk.i64_in _ (by omega)
          obtain ⟨KC, hKC⟩ : ∃ f, f = k * C := ⟨_, rfl⟩
          rw [← hKC] at e1 e2 q2 HQ3 HG
          obtain ⟨P, hP⟩ : ∃ f, f = O + KC := ⟨_, rfl⟩
          rw [← hP] at e2 q2 HQ3 HG
          obtain ⟨qs, hqs⟩ : ∃ f, f = zn (partW ys (k * bc) bc) := ⟨_, rfl⟩
          rw [← hqs] at HG
          have HGG := Lib.hid HG
          have hql : qs.length = bc := by rw [hqs, zn_length, partW_length]
          have HQL := Lib.hid hql
          have HOO : Hid (∀ W, Below wk.heap.size wk W → OwnK .u64 32 w4.heap.size W (.slice (some ⟨g5, 0, none⟩) m c5) (zn (Pk k))) := Lib.hid (fun W h => O5.below h)
          have HSR : Hid (∀ W, Below wk.heap.size wk W → ∀ (x : Nat) v, (valsK .u64 qs)[x]? = some v → W.cell? ((⟨S2, off2 + k * bc, none⟩ : Addr).add x) = some v) := Lib.hid (by rw [hqs]; exact fun W h => HSRC.out k hlt W (below_both BW h))
          have HKS : Hid (∀ W, Below wk.heap.size wk W → W.cell? ⟨w5.heap.size, 2, none⟩ = some (.slice (some ⟨g5, 0, none⟩) m c5) ∧ W.cell? ⟨gv, 2, none⟩ = some (.int .i64 (C : Int)) ∧ W.cell? ⟨gv, 3, none⟩ = some (.int .i64 (O : Int)) ∧ W.cell? ⟨w.heap.size + 1, 0, none⟩ = some (.int .i64 (br : Int)) ∧ W.cell? ⟨w.heap.size + 1, 1, none⟩ = some (.int .i64 (bc : Int)) ∧ W.cell? ⟨w.heap.size + 1, 2, none⟩ = some (.slice (some ⟨S2, off2, none⟩) n cap2)) := Lib.hid (fun W h => ⟨(LO.behind h).cell (i := 2) rfl, (L.behind h).cell (i := 2) rfl, (L.behind h).cell (i := 3) rfl, (K2.behind h).cell (i := 0) rfl, (K2.behind h).cell (i := 1) rfl, (K2.behind h).cell (i := 2) rfl⟩)
          have HME : Hid (∀ V W : World, Below wk.heap.size wk V → (∀ x, x ≠ g5 → W.heap[x]? = V.heap[x]?) → Below w4.heap.size V W → Ms W w5.heap.size #[.int .i64 (R : Int), .int .i64 (C : Int), .slice (some ⟨g5, 0, none⟩) m c5] 24 ∧ Ms W (w.heap.size + 1) #[.int .i64 (br : Int), .int .i64 (bc : Int), .slice (some ⟨S2, off2, none⟩) n cap2] 24 ∧ Ms W (w.heap.size + 1 + 1) #[.int .i64 0, .int .i64 0, .slice none 0 0] 24 ∧ Ms W gv #[.int .i64 (br : Int), .int .i64 (bc : Int), .int .i64 (C : Int), .int .i64 (O : Int)] 95 ∧ Below w.heap.size w W) := Lib.hid (fun V W h ne b =>
            ⟨(ne _ (by omega)).trans (LO.behind h), (ne _ (by omega)).trans (K2.behind h), (ne _ (by omega)).trans (K3.behind h), (ne _ (by omega)).trans (L.behind h), (below_both BW h).trans (b.mono n4)⟩)
          have HKN : Hid (∀ V W : World, Below wk.heap.size wk V → (∀ x, x ≠ g5 → W.heap[x]? = V.heap[x]?) → Below w4.heap.size V W → W.cell? ⟨w5.heap.size, 2, none⟩ = some (.slice (some ⟨g5, 0, none⟩) m c5) ∧ W.cell? ⟨gv, 2, none⟩ = some (.int .i64 (C : Int)) ∧ W.cell? ⟨gv, 3, none⟩ = some (.int .i64 (O : Int)) ∧ W.cell? ⟨w.heap.size + 1, 0, none⟩ = some (.int .i64 (br : Int)) ∧ W.cell? ⟨w.heap.size + 1, 1, none⟩ = some (.int .i64 (bc : Int)) ∧ W.cell? ⟨w.heap.size + 1, 2, none⟩ = some (.slice (some ⟨S2, off2, none⟩) n cap2)) := Lib.hid (fun V W h ne b => by
            obtain ⟨m1, m2, m3, m4, m5⟩ := HME.out V W h ne b
            exact ⟨m1.cell (i := 2) rfl, m4.cell (i := 2) rfl, m4.cell (i := 3) rfl, m2.cell (i := 0) rfl, m2.cell (i := 1) rfl, m2.cell (i := 2) rfl⟩)
          have HRK := Lib.hid (HRW.out k hlt)
          have e3 : IntKind.i64.wrap ((k : Int) + 1) = ((k + 1 : Nat) : Int) := by rw [Int.natCast_add]; exact IntWalk.i64_in _ (by omega)
          have Br : Below wk.heap.size wk wk := Below.refl _ _
          have g1 : (P : Int) ≤ (m : Int) := by have := HQ3.out; omega
          have g2 : P ≤ m := by omega
          have g3 : P ≤ c5 := by omega
          have g4 : ¬ c5 = P := by have := HQ3.out; omega
          have g5' : (m : Int) ≤ (c5 : Int) := by omega
          have HSZL := HLN.out k
          obtain ⟨c, hcb⟩ : ∃ c, c = k * bc := ⟨_, rfl⟩
          clear O5 LO K2 K3 L hqs hKC hP q1 q3 q4 HG hql
          go_upto_region 15 with (fail)
          go_region_held3 (fun W => W.cell? ⟨w5.heap.size, 2, none⟩ = some (.slice (some ⟨g5, 0, none⟩) m c5) ∧ W.cell? ⟨gv, 2, none⟩ = some (.int .i64 (C : Int)) ∧ W.cell? ⟨gv, 3, none⟩ = some (.int .i64 (O : Int)) ∧ W.cell? ⟨w.heap.size + 1, 0, none⟩ = some (.int .i64 (br : Int)) ∧ W.cell? ⟨w.heap.size + 1, 1, none⟩ = some (.int .i64 (bc : Int)) ∧ W.cell? ⟨w.heap.size + 1, 2, none⟩ = some (.slice (some ⟨S2, off2, none⟩) n cap2))
            (first | with_reducible exact HKS.out _ Br | with_reducible exact HKS.out _ Br.drew | exact HKN.out _ _ Br ne7 b7 | exact HKN.out _ _ Br.drew ne7 b7 | (trace_state; fail))
            (first
              | (go_at_call 69; (with_reducible refine (HRK.out _).mono ?_); rintro e v ⟨rfl, bz⟩; (first | replace Br := below_both Br bz | replace Br := below_both Br.drew bz); clear bz)
              | (refine own_copy_step rfl (.tmp 62) (.tmp 65) rfl (b := w4.heap.size) (g := g5) (n := m) (cap := c5) (off := P) (len := m - P) (dcap := c5 - P) (sc := cap2 - k * bc) (zs := zn (Pk k)) (qs := qs) (ad := ⟨S2, off2 + k * bc, none⟩) (by simp [Act.eval]) (by rw [HQL.out]; simp [Act.eval]) (HOO.out _ Br) (by have := HQ3.out; rw [HQL.out]; omega) (by have := HQ3.out; rw [HQL.out, HSZL]; omega) (HSR.out _ Br) ?_; intro w7 o7 ne7 sz7 b7)
              | (refine own_copy_step rfl (.tmp 62) (.tmp 65) rfl (b := w4.heap.size) (g := g5) (n := m) (cap := c5) (off := P) (len := m - P) (dcap := c5 - P) (sc := cap2 - k * bc) (zs := zn (Pk k)) (qs := qs) (ad := ⟨S2, off2 + k * bc, none⟩) (by simp [Act.eval]) (by rw [HQL.out]; simp [Act.eval]) (HOO.out _ Br.drew) (by have := HQ3.out; rw [HQL.out]; omega) (by have := HQ3.out; rw [HQL.out, HSZL]; omega) (HSR.out _ Br.drew) ?_; intro w7 o7 ne7 sz7 b7))
          all_goals
            clear HKS HKN HSR HOO HRK
            go_wp2
            obtain ⟨l1, l2, l3, l4, l5⟩ := HME.out _ _ Br ne7 b7
            exact ⟨⟨k + 1, ((k + 1 : Nat) : Int), by omega, rfl, rfl, by rw [← HGG.out]; exact o7, l1, l2, l3, l4, l5⟩, by simp [intOf]; omega⟩
        · obtain rfl : k = br := by omega
          subst hz
          have HN := Lib.hid (new_zn.2 (O5.new (by have := LO.lt; omega)))
          have q : decide ((k : Int) < (k : Int)) = false := decide_eq_false (by omega)
          have d0 := K2.cell (i := 0) rfl
          have k0 := LO.cell (i := 0) rfl
          have k1 := LO.cell (i := 1) rfl
          have k2 := LO.cell (i := 2) rfl
          have g0 := K3.cell (i := 0) rfl
          have g1 := K3.cell (i := 1) rfl
          have g2 := K3.cell (i := 2) rfl
          have f0 := K3.f 0
          have f1 := K3.f 1
          have f2 := K3.f 2
          have HBX := Lib.hid BW
          have HN2 := Lib.hid n2
          clear O5 hlt LO K2 K3 L BW
          go_wp2
          exact bodyPost_ret (v := .tuple #[.agg #[.int .i64 (R : Int), .int .i64 (C : Int), .slice (some ⟨g5, 0, none⟩) m c5], .int .i64 0]) (by simp [results, Try.results34, go_sem, g0, g1, g2]) rfl
            ⟨some ⟨g5, 0, none⟩, c5, rfl, (HN.out.put3 HN2.out _ _ _).lower n4, HBX.out.put3 (by omega) _ _ _⟩
end Go.Proofs.Ytdcebkhdnhdejaa
