/- vernierlaw20.MatTells, walked. -/
import Derived.Test.YtjiilechfjkkfaaMaTl
import Derived.Deep.RegionHeld3
import Derived.Deep.CutRange
namespace Go.Proofs.Ytjiilechfjkkfaa
open Go.RowKit Go.Shelf
theorem tellV_same {ws ws' : List Nat} {f : Int} (h : f = 0 → ws = ws') : tellV ws f = tellV ws' f ∧ (if tellV ws f = 0 then ws else []) = (if tellV ws' f = 0 then ws' else []) := by
  by_cases h0 : f = 0
  · rw [h h0]; exact ⟨rfl, rfl⟩
  · rw [tellV_no h0, tellV_no h0, if_neg h0, if_neg h0]; exact ⟨rfl, rfl⟩
set_option maxRecDepth 100000 in
set_option maxHeartbeats 16000000 in
theorem matTells_calls {R C R' C' : Int} {a b : Option Addr} {m n cap cap' p : Nat} {xs ys : List Nat} {w : World} (hp : (p : Int) ≤ 18446744073709551615) (hA : Arg w (.slice a m cap) xs) (hB : Arg w (.slice b n cap') ys) (hx : Low 18446744073709551616 xs) (hy : Low 18446744073709551616 ys) (hxn : xs.length ≤ 17592186044415) (hyn : ys.length ≤ 17592186044415) :
    Calls Try.prog 5 #[.agg #[.int .i64 R, .int .i64 C, .slice a m cap], .agg #[.int .i64 R', .int .i64 C', .slice b n cap'], .int .u64 (p : Int)] w fun e W' => e = .returned (.bool true) ∧ Below w.heap.size w W' := by
  have HXN := Lib.hid hxn
  have HYN := Lib.hid hyn
  have hpos : 0 < w.heap.size := by obtain ⟨S, hS, _⟩ := hA; omega
  have hmx : m = xs.length := by
    obtain ⟨a', c', e⟩ := hA.slice
    simp only [Value.slice.injEq] at e
    omega
  have hny : n = ys.length := by
    obtain ⟨a', c', e⟩ := hB.slice
    simp only [Value.slice.injEq] at e
    omega
  obtain ⟨B, G1, G2, hsz⟩ := vboxm w #[.int .i64 R, .int .i64 C, .slice a m cap] #[.int .i64 R', .int .i64 C', .slice b n cap'] 24 24 _ rfl
  have hal := l20_alive
  have H1 := Lib.hid (fun (W : World) (h : Below w.heap.size w W) => shape_finite (R := R) (C := C) (hA.behind h) hx)
  have H2 := Lib.hid (fun (W : World) (h : Below w.heap.size w W) => shape_finite (R := R') (C := C') (hB.behind h) hy)
  have HCA := Lib.hid (fun w => class6 (a := p) (W := w) hp)
  have HWN := Lib.hid (fun (b : Bool) (e0 : Int) (w : World) => l20_when (b := b) (e0 := e0) (w := w))
  have HAD := Lib.hid (fun (W : World) (h : Below w.heap.size w W) => mat_add (R := R) (C := C) (R' := R') (C' := C') (hA.behind h) (hB.behind h) hx hy)
  have HSU := Lib.hid (fun (W : World) (h : Below w.heap.size w W) => mat_sub (R := R) (C := C) (R' := R') (C' := C') (hA.behind h) (hB.behind h) hx hy)
  have HSC := Lib.hid (fun (W : World) (h : Below w.heap.size w W) => mat_scale (R := R) (C := C) hp (hA.behind h) hx)
  obtain ⟨F, hF⟩ : ∃ F, F = pairF R C m xs R' C' n ys := ⟨_, rfl⟩
  obtain ⟨G, hG⟩ : ∃ G, G = scF R C m xs p := ⟨_, rfl⟩
  have HF := Lib.hid (show F = firstE (finM R C m xs) (finM R' C' n ys) (sidesE R C R' C') from hF)
  have HG := Lib.hid (show G = firstE (finM R C m xs) (nfE p) 0 from hG)
  have HFK : Hid (F = 0 → mayM R C m = true ∧ m = n) := Lib.hid (fun h => by
    rw [hF] at h
    obtain ⟨q1, q2, q3, q4⟩ := pairF_ok h
    have a1 := (finM_ok q1).1
    have a2 := (finM_ok q2).1
    rw [← q3, ← q4] at a2
    have := (mayM_iff.1 a1).2.2.2.2
    have := (mayM_iff.1 a2).2.2.2.2
    exact ⟨a1, by omega⟩)
  have HGK : Hid (G = 0 → mayM R C m = true) := Lib.hid (fun h => by
    rw [hG] at h
    unfold scF at h
    rcases firstE_ways (finM R C m xs) (nfE p) 0 with ⟨q, e⟩ | ⟨q, q2, e⟩ | ⟨q, _⟩
    · exact absurd (e ▸ h) q
    · exact absurd (e ▸ h) q2
    · exact (finM_ok q).1)
  rw [← hF] at HAD HSU
  rw [← hG] at HSC
  clear hF hG
  have S0 : Hid ((R ≠ R' ∧ sidesE R C R' C' = 11) ∨ (R = R' ∧ C ≠ C' ∧ sidesE R C R' C' = 11) ∨ (R = R' ∧ C = C' ∧ sidesE R C R' C' = 0)) := Lib.hid (by
    unfold sidesE
    by_cases h : R = R'
    · by_cases h2 : C = C'
      · right; right; exact ⟨h, h2, if_neg (by simp [h, h2])⟩
      · right; left; exact ⟨h, h2, if_pos (.inr h2)⟩
    · left; exact ⟨h, if_pos (.inl h)⟩)
  have N0 : Hid (nfE p = if decide (1 < (cls p : Int)) then 12 else 0) := Lib.hid (by
    unfold nfE
    by_cases h : 2 ≤ cls p
    · rw [if_pos h, decide_eq_true (by omega), if_pos rfl]
    · rw [if_neg h, decide_eq_false (by omega), if_neg (by decide)])
  generalize finM R C m xs = ea at *
  generalize finM R' C' n ys = eb at *
  generalize sidesE R C R' C' = es at *
  generalize nfE p = ep at *
  have HMX := Lib.hid hmx
  have HNY := Lib.hid hny
  have HXL := Lib.hid (fun k => lim_lt hx (by decide : 0 < 18446744073709551616) k)
  have HYL := Lib.hid (fun k => lim_lt hy (by decide : 0 < 18446744073709551616) k)
  obtain ⟨S, sa, sc, hS, es1, _, HXO⟩ := hA.opened
  simp only [Value.slice.injEq] at es1
  obtain ⟨rfl, -, rfl⟩ := es1
  obtain ⟨T, ta, tc, hTT, et1, _, HYO⟩ := hB.opened
  simp only [Value.slice.injEq] at et1
  obtain ⟨rfl, -, rfl⟩ := et1
  rw [← hmx] at HXO
  rw [← hny] at HYO
  clear hA hB hmx hny hx hy hxn hyn
  go_enter Try.func5, Try.ntmps5
  go_wp2_with fail
  generalize (w.alloc (.cells #[.int .i64 R, .int .i64 C, .slice a m cap] 24)).alloc (.cells #[.int .i64 R', .int .i64 C', .slice b n cap'] 24) = W0 at *
  refine (hal _).mono ?_
  rintro e W1 ⟨rfl, b1⟩
  replace B := below_both B b1
  replace G1 := G1.behind b1
  replace G2 := G2.behind b1
  clear hal b1 hsz
  have c0 := G1.cell (i := 0) rfl
  have c1 := G1.cell (i := 1) rfl
  have c2 := G1.cell (i := 2) rfl
  have d0 := G2.cell (i := 0) rfl
  have d1 := G2.cell (i := 1) rfl
  have d2 := G2.cell (i := 2) rfl
  go_upto_region 3 with (fail)
  go_cut [7] from 28 to 46 (fun u wx => u = .int .i64 F ∧ Below W1.heap.size W1 wx)
  case first =>
   as_aux_lemma =>
    have HK : Hid (∀ W, Below W1.heap.size W1 W → W.cell? ⟨w.heap.size, 0, none⟩ = some (.int .i64 R) ∧ W.cell? ⟨w.heap.size, 1, none⟩ = some (.int .i64 C) ∧ W.cell? ⟨w.heap.size, 2, none⟩ = some (.slice a m cap)
        ∧ W.cell? ⟨w.heap.size + 1, 0, none⟩ = some (.int .i64 R') ∧ W.cell? ⟨w.heap.size + 1, 1, none⟩ = some (.int .i64 C') ∧ W.cell? ⟨w.heap.size + 1, 2, none⟩ = some (.slice b n cap')) := Lib.hid (fun W h =>
      ⟨(G1.behind h).cell (i := 0) rfl, (G1.behind h).cell (i := 1) rfl, (G1.behind h).cell (i := 2) rfl, (G2.behind h).cell (i := 0) rfl, (G2.behind h).cell (i := 1) rfl, (G2.behind h).cell (i := 2) rfl⟩)
    have Br : Below W1.heap.size W1 W1 := Below.refl _ _
    rcases S0.out with ⟨h1, h2⟩ | ⟨h1, h2, h3⟩ | ⟨h1, h2, h3⟩
    · have q1 : (R != R') = true := bne_iff_ne.2 h1
      have HFE : Hid (firstE ea eb 11 = F) := Lib.hid (by rw [HF.out, h2])
      clear h1 h2 S0 HF HFK
      refine wp_region_held_drew (S := fun W => W.cell? ⟨w.heap.size, 0, none⟩ = some (.int .i64 R) ∧ W.cell? ⟨w.heap.size, 1, none⟩ = some (.int .i64 C) ∧ W.cell? ⟨w.heap.size, 2, none⟩ = some (.slice a m cap) ∧ W.cell? ⟨w.heap.size + 1, 0, none⟩ = some (.int .i64 R') ∧ W.cell? ⟨w.heap.size + 1, 1, none⟩ = some (.int .i64 C') ∧ W.cell? ⟨w.heap.size + 1, 2, none⟩ = some (.slice b n cap')) (by kernel_rfl) ?_ (fun hHeld => ?_)
      · (try dsimp only); first | with_reducible exact HK.out _ Br | with_reducible exact HK.out _ Br.drew | with_reducible exact HK.out _ (Br.alloc Br.size _)
      refine wpAnyH_take (i := 0) (oi := { dst := some 28, op := _, type := _, pos := _, after := _, guard := _ }) (v := ?v0) rfl (by kernel_rfl) (by kernel_rfl) (by kernel_rfl) (fun _ _ _ h => h) (Or.inl ⟨by rfl, ?hy0⟩) (by assumption) ?rest0
      case hy0 => intro w hSw; (try dsimp only at hSw); go_simp; first | done | with_reducible rfl
      simp only [Act.put, List.setIfInBounds_toArray, List.set_cons_zero, List.set_cons_succ]
      refine wpAnyH_take (i := 2) (oi := { dst := some 30, op := _, type := _, pos := _, after := _, guard := _ }) (v := ?v2) rfl (by kernel_rfl) (by kernel_rfl) (by kernel_rfl) (fun _ _ _ h => h) (Or.inl ⟨by rfl, ?hy2⟩) (by assumption) ?rest2
      case hy2 => intro w hSw; (try dsimp only at hSw); go_simp; first | done | with_reducible rfl
      simp only [Act.put, List.setIfInBounds_toArray, List.set_cons_zero, List.set_cons_succ]
      refine wpAnyH_take (i := 4) (oi := { dst := some 32, op := _, type := _, pos := _, after := _, guard := _ }) (v := ?v4) rfl (by kernel_rfl) (by kernel_rfl) (by kernel_rfl) (fun _ _ _ h => h) (Or.inl ⟨by rfl, ?hy4⟩) (by assumption) ?rest4
      case hy4 => intro w hSw; (try dsimp only at hSw); go_simp; first | done | with_reducible rfl
      simp only [Act.put, List.setIfInBounds_toArray, List.set_cons_zero, List.set_cons_succ]
      refine wpAnyH_take (i := 5) (oi := { dst := some 33, op := _, type := _, pos := _, after := _, guard := _ }) (v := ?v5) rfl (by kernel_rfl) (by kernel_rfl) (by kernel_rfl) (fun _ _ _ h => h) (Or.inl ⟨by rfl, ?hy5⟩) (by assumption) ?rest5
      case hy5 => intro w hSw; (try dsimp only at hSw); go_simp; first | done | with_reducible rfl
      simp only [Act.put, List.setIfInBounds_toArray, List.set_cons_zero, List.set_cons_succ]
      refine wpAnyH_take (i := 6) (oi := { dst := some 34, op := _, type := _, pos := _, after := _, guard := _ }) (v := ?v6) rfl (by kernel_rfl) (by kernel_rfl) (by kernel_rfl) (fun _ _ _ h => h) (Or.inl ⟨by rfl, ?hy6⟩) (by assumption) ?rest6
      case hy6 => intro w hSw; (try dsimp only at hSw); go_simp; first | done | with_reducible rfl
      simp only [Act.put, List.setIfInBounds_toArray, List.set_cons_zero, List.set_cons_succ]
      refine wpAnyH_take (i := 7) (oi := { dst := some 35, op := _, type := _, pos := _, after := _, guard := _ }) (v := ?v7) rfl (by kernel_rfl) (by kernel_rfl) (by kernel_rfl) (fun _ _ _ h => h) (Or.inl ⟨by rfl, ?hy7⟩) (by assumption) ?rest7
      case hy7 => intro w hSw; (try dsimp only at hSw); go_simp; first | done | with_reducible rfl
      simp only [Act.put, List.setIfInBounds_toArray, List.set_cons_zero, List.set_cons_succ]
      refine wpAnyH_take (i := 8) (oi := { dst := some 36, op := _, type := _, pos := _, after := _, guard := _ }) (v := ?v8) rfl (by kernel_rfl) (by kernel_rfl) (by kernel_rfl) (fun _ _ _ h => h) (Or.inl ⟨by rfl, ?hy8⟩) (by assumption) ?rest8
      case hy8 => intro w hSw; (try dsimp only at hSw); go_simp; first | done | with_reducible rfl
      simp only [Act.put, List.setIfInBounds_toArray, List.set_cons_zero, List.set_cons_succ]
      refine wpAnyH_ready (rs := [1]) (by kernel_rfl) (by simp) ?_
      refine AllReadyH.cons rfl (fun K hK => ?_) AllReadyH.nil
      go_simp
      go_at_call 24
      refine (H1.out _ (below_both B Br.drew)).mono ?_
      rintro e v4 ⟨rfl, bz⟩
      replace Br : Below W1.heap.size W1 v4 := below_both Br.drew bz
      clear bz
      refine hK.out _ _ ?_ (fun hHeld => ?_)
      · first | with_reducible exact HK.out _ Br | with_reducible exact HK.out _ Br.drew | with_reducible exact HK.out _ (Br.alloc Br.size _)
      clear hK K
      try simp only [Act.put, List.setIfInBounds_toArray, List.set_cons_zero, List.set_cons_succ]
      refine wpAnyH_ready (rs := [3]) (by kernel_rfl) (by simp) ?_
      refine AllReadyH.cons rfl (fun K hK => ?_) AllReadyH.nil
      go_simp
      go_at_call 24
      refine (H2.out _ (below_both B Br)).mono ?_
      rintro e v5 ⟨rfl, bz⟩
      replace Br : Below W1.heap.size W1 v5 := below_both Br bz
      clear bz
      refine hK.out _ _ ?_ (fun hHeld => ?_)
      · first | with_reducible exact HK.out _ Br | with_reducible exact HK.out _ Br.drew | with_reducible exact HK.out _ (Br.alloc Br.size _)
      clear hK K
      try simp only [Act.put, List.setIfInBounds_toArray, List.set_cons_zero, List.set_cons_succ]
      refine wpAnyH_take (i := 9) (oi := { dst := some 37, op := _, type := _, pos := _, after := _, guard := _ }) (v := ?v9) rfl (by kernel_rfl) (by kernel_rfl) (by kernel_rfl) (fun _ _ _ h => h) (Or.inl ⟨by rfl, ?hy9⟩) (by assumption) ?rest9
      case hy9 => intro w hSw; (try dsimp only at hSw); go_simp; first | done | with_reducible rfl
      simp only [Act.put, List.setIfInBounds_toArray, List.set_cons_zero, List.set_cons_succ]
      refine wpAnyH_take (i := 10) (oi := { dst := some 38, op := _, type := _, pos := _, after := _, guard := _ }) (v := undef) rfl (by kernel_rfl) (by kernel_rfl) (by kernel_rfl) (fun _ _ _ h => h) (Or.inr ⟨by rfl, rfl⟩) (by assumption) ?rest10
      simp only [Act.put, List.setIfInBounds_toArray, List.set_cons_zero, List.set_cons_succ]
      refine wpAnyH_take (i := 11) (oi := { dst := some 39, op := _, type := _, pos := _, after := _, guard := _ }) (v := undef) rfl (by kernel_rfl) (by kernel_rfl) (by kernel_rfl) (fun _ _ _ h => h) (Or.inr ⟨by rfl, rfl⟩) (by assumption) ?rest11
      simp only [Act.put, List.setIfInBounds_toArray, List.set_cons_zero, List.set_cons_succ]
      refine wpAnyH_take (i := 12) (oi := { dst := some 40, op := _, type := _, pos := _, after := _, guard := _ }) (v := undef) rfl (by kernel_rfl) (by kernel_rfl) (by kernel_rfl) (fun _ _ _ h => h) (Or.inr ⟨by rfl, rfl⟩) (by assumption) ?rest12
      simp only [Act.put, List.setIfInBounds_toArray, List.set_cons_zero, List.set_cons_succ]
      refine wpAnyH_take (i := 13) (oi := { dst := some 41, op := _, type := _, pos := _, after := _, guard := _ }) (v := undef) rfl (by kernel_rfl) (by kernel_rfl) (by kernel_rfl) (fun _ _ _ h => h) (Or.inr ⟨by rfl, rfl⟩) (by assumption) ?rest13
      simp only [Act.put, List.setIfInBounds_toArray, List.set_cons_zero, List.set_cons_succ]
      refine wpAnyH_take (i := 14) (oi := { dst := some 42, op := _, type := _, pos := _, after := _, guard := _ }) (v := undef) rfl (by kernel_rfl) (by kernel_rfl) (by kernel_rfl) (fun _ _ _ h => h) (Or.inr ⟨by rfl, rfl⟩) (by assumption) ?rest14
      simp only [Act.put, List.setIfInBounds_toArray, List.set_cons_zero, List.set_cons_succ]
      refine wpAnyH_take (i := 15) (oi := { dst := some 43, op := _, type := _, pos := _, after := _, guard := _ }) (v := ?v15) rfl (by kernel_rfl) (by kernel_rfl) (by kernel_rfl) (fun _ _ _ h => h) (Or.inl ⟨by rfl, ?hy15⟩) (by assumption) ?rest15
      case hy15 => intro w hSw; (try dsimp only at hSw); go_simp; first | done | with_reducible rfl
      simp only [Act.put, List.setIfInBounds_toArray, List.set_cons_zero, List.set_cons_succ]
      refine wpAnyH_ready (rs := [16]) (by kernel_rfl) (by simp) ?_
      refine AllReadyH.cons rfl (fun K hK => ?_) AllReadyH.nil
      go_simp
      go_at_call 25
      refine (HWN.out _ _ _).mono ?_
      rintro e v6 ⟨rfl, rfl⟩
      refine hK.out _ _ ?_ (fun hHeld => ?_)
      · first | with_reducible exact HK.out _ Br | with_reducible exact HK.out _ Br.drew | with_reducible exact HK.out _ (Br.alloc Br.size _)
      clear hK K
      try simp only [Act.put, List.setIfInBounds_toArray, List.set_cons_zero, List.set_cons_succ]
      refine wpAnyH_ready (rs := [17]) (by kernel_rfl) (by simp) ?_
      refine AllReadyH.cons rfl (fun K hK => ?_) AllReadyH.nil
      go_simp
      refine hK.out _ _ ?_ (fun hHeld => ?_)
      · first | with_reducible exact HK.out _ Br | with_reducible exact HK.out _ Br.drew | with_reducible exact HK.out _ (Br.alloc Br.size _)
      clear hK K
      try simp only [Act.put, List.setIfInBounds_toArray, List.set_cons_zero, List.set_cons_succ]
      refine wpAnyH_ready (rs := [18]) (by kernel_rfl) (by simp) ?_
      refine AllReadyH.cons rfl (fun K hK => ?_) AllReadyH.nil
      go_simp
      go_at_call 23
      refine l20_first3_at.mono ?_
      rintro e v7 ⟨rfl, bz⟩
      replace Br : Below W1.heap.size W1 v7 := below_both Br bz
      clear bz
      refine hK.out _ _ ?_ (fun hHeld => ?_)
      · first | with_reducible exact HK.out _ Br | with_reducible exact HK.out _ Br.drew | with_reducible exact HK.out _ (Br.alloc Br.size _)
      clear hK K
      try simp only [Act.put, List.setIfInBounds_toArray, List.set_cons_zero, List.set_cons_succ]
      refine wpAnyH_take (i := 19) (oi := { dst := some 7, op := _, type := _, pos := _, after := _, guard := _ }) (v := ?v19) rfl (by kernel_rfl) (by kernel_rfl) (by kernel_rfl) (fun _ _ _ h => h) (Or.inl ⟨by rfl, ?hy19⟩) (by assumption) ?rest19
      case hy19 => intro w hSw; (try dsimp only at hSw); go_simp; first | done | with_reducible rfl
      simp only [Act.put, List.setIfInBounds_toArray, List.set_cons_zero, List.set_cons_succ]
      refine wpAnyH_done (by kernel_rfl) ?_ _
      all_goals
        go_wp2_with fail
        go_meet
        exact ⟨by rw [← HFE.out], Br⟩
    · have q1 : (R != R') = false := by simp [h1]
      have q2 : (C != C') = true := bne_iff_ne.2 h2
      have HFE : Hid (firstE ea eb 11 = F) := Lib.hid (by rw [HF.out, h3])
      clear h1 h2 h3 S0 HF HFK
      go_region_held3 (fun W => W.cell? ⟨w.heap.size, 0, none⟩ = some (.int .i64 R) ∧ W.cell? ⟨w.heap.size, 1, none⟩ = some (.int .i64 C) ∧ W.cell? ⟨w.heap.size, 2, none⟩ = some (.slice a m cap)
        ∧ W.cell? ⟨w.heap.size + 1, 0, none⟩ = some (.int .i64 R') ∧ W.cell? ⟨w.heap.size + 1, 1, none⟩ = some (.int .i64 C') ∧ W.cell? ⟨w.heap.size + 1, 2, none⟩ = some (.slice b n cap'))
        (first | with_reducible exact HK.out _ Br | with_reducible exact HK.out _ Br.drew | with_reducible exact HK.out _ (Br.alloc Br.size _) | (refine ⟨?_, ?_, ?_, ?_, ?_, ?_⟩ <;> go_keep))
        (first
          | (go_at_call 24; (with_reducible refine (H1.out _ (by first | with_reducible exact below_both B Br | with_reducible exact below_both B Br.drew)).mono ?_); rintro e v4 ⟨rfl, bz⟩; replace Br : Below W1.heap.size W1 v4 := (by first | with_reducible exact below_both Br bz | with_reducible exact below_both Br.drew bz); clear bz)
          | (go_at_call 24; (with_reducible refine (H2.out _ (by first | with_reducible exact below_both B Br | with_reducible exact below_both B Br.drew)).mono ?_); rintro e v5 ⟨rfl, bz⟩; replace Br : Below W1.heap.size W1 v5 := (by first | with_reducible exact below_both Br bz | with_reducible exact below_both Br.drew bz); clear bz)
          | (go_at_call 25; (with_reducible refine (HWN.out _ _ _).mono ?_); rintro e v6 ⟨rfl, rfl⟩)
          | (go_at_call 23; (with_reducible refine l20_first3_at.mono ?_); rintro e v7 ⟨rfl, bz⟩; replace Br : Below W1.heap.size W1 v7 := (by first | with_reducible exact below_both Br bz | with_reducible exact below_both Br.drew bz); clear bz))
      all_goals
        go_wp2_with fail
        go_meet
        exact ⟨by rw [← HFE.out], Br⟩
    · have q1 : (R != R') = false := by simp [h1]
      have q2 : (C != C') = false := by simp [h2]
      have HFE : Hid (firstE ea eb 0 = F) := Lib.hid (by rw [HF.out, h3])
      clear h1 h2 h3 S0 HF HFK
      go_region_held3 (fun W => W.cell? ⟨w.heap.size, 0, none⟩ = some (.int .i64 R) ∧ W.cell? ⟨w.heap.size, 1, none⟩ = some (.int .i64 C) ∧ W.cell? ⟨w.heap.size, 2, none⟩ = some (.slice a m cap)
        ∧ W.cell? ⟨w.heap.size + 1, 0, none⟩ = some (.int .i64 R') ∧ W.cell? ⟨w.heap.size + 1, 1, none⟩ = some (.int .i64 C') ∧ W.cell? ⟨w.heap.size + 1, 2, none⟩ = some (.slice b n cap'))
        (first | with_reducible exact HK.out _ Br | with_reducible exact HK.out _ Br.drew | with_reducible exact HK.out _ (Br.alloc Br.size _) | (refine ⟨?_, ?_, ?_, ?_, ?_, ?_⟩ <;> go_keep))
        (first
          | (go_at_call 24; (with_reducible refine (H1.out _ (by first | with_reducible exact below_both B Br | with_reducible exact below_both B Br.drew)).mono ?_); rintro e v4 ⟨rfl, bz⟩; replace Br : Below W1.heap.size W1 v4 := (by first | with_reducible exact below_both Br bz | with_reducible exact below_both Br.drew bz); clear bz)
          | (go_at_call 24; (with_reducible refine (H2.out _ (by first | with_reducible exact below_both B Br | with_reducible exact below_both B Br.drew)).mono ?_); rintro e v5 ⟨rfl, bz⟩; replace Br : Below W1.heap.size W1 v5 := (by first | with_reducible exact below_both Br bz | with_reducible exact below_both Br.drew bz); clear bz)
          | (go_at_call 25; (with_reducible refine (HWN.out _ _ _).mono ?_); rintro e v6 ⟨rfl, rfl⟩)
          | (go_at_call 23; (with_reducible refine l20_first3_at.mono ?_); rintro e v7 ⟨rfl, bz⟩; replace Br : Below W1.heap.size W1 v7 := (by first | with_reducible exact below_both Br bz | with_reducible exact below_both Br.drew bz); clear bz))
      all_goals
        go_wp2_with fail
        go_meet
        exact ⟨by rw [← HFE.out], Br⟩
  obtain ⟨rfl, Br⟩ := hcut
  replace B := below_both B Br
  replace G1 := G1.behind Br
  replace G2 := G2.behind Br
  have c0 := G1.cell (i := 0) rfl
  have c1 := G1.cell (i := 1) rfl
  have c2 := G1.cell (i := 2) rfl
  clear Br S0 HF H2
  go_wp2_with fail
  refine (H1.out _ B).mono ?_
  rintro e w2 ⟨rfl, b2⟩
  replace B := below_both B b2
  replace G1 := G1.behind b2
  replace G2 := G2.behind b2
  clear b2
  go_wp2_with fail
  refine (HCA.out _).mono ?_
  rintro e w3 ⟨rfl, rfl⟩
  go_wp2_with fail
  refine (HWN.out _ _ _).mono ?_
  rintro e w3 ⟨rfl, rfl⟩
  rw [← N0.out]
  go_wp2_with fail
  refine l20_first2_at.mono ?_
  rintro e w4 ⟨rfl, b4⟩
  rw [← HG.out]
  replace B := below_both B b4
  replace G1 := G1.behind b4
  replace G2 := G2.behind b4
  clear b4 H1 HCA HWN HG N0
  have c0 := G1.cell (i := 0) rfl
  have c1 := G1.cell (i := 1) rfl
  have c2 := G1.cell (i := 2) rfl
  have d0 := G2.cell (i := 0) rfl
  have d1 := G2.cell (i := 1) rfl
  have d2 := G2.cell (i := 2) rfl
  obtain ⟨M, hM⟩ : ∃ M, M = min m n := ⟨_, rfl⟩
  have hMm : M ≤ m := by omega
  have hMn : M ≤ n := by omega
  have hMe : M = m ∨ M = n := by omega
  have HMX2 := Lib.hid (And.intro HMX.out (And.intro HXN.out (And.intro HNY.out HYN.out)))
  have HPS := Lib.hid (pairK_succ plusU xs ys)
  have HRS := Lib.hid (pairK_succ minusU xs ys)
  have HPL := Lib.hid (pairK_length plusU xs ys)
  have HRL := Lib.hid (pairK_length minusU xs ys)
  have HP0 : Hid (pairK plusU xs ys 0 = []) := Lib.hid rfl
  have HR0 : Hid (pairK minusU xs ys 0 = []) := Lib.hid rfl
  have HMH := Lib.hid hM
  clear hM
  have hm44 : m ≤ 17592186044415 := by rw [HMX.out]; exact HXN.out
  have hn44 : n ≤ 17592186044415 := by rw [HNY.out]; exact HYN.out
  go_upto_block 0 with (fail)
  go_cut [9, 10] from 12 to 104 (fun p r wx => Duo w4 wx p r (pairK plusU xs ys M) (pairK minusU xs ys M))
  case first =>
   as_aux_lemma =>
    go_wp2_with fail
    go_loopw [9, 10, 12] (fun p r i wr => ∃ k : Nat, k ≤ M ∧ i = .int .i64 k ∧ Duo w4 wr p r (pairK plusU xs ys k) (pairK minusU xs ys k)) (fun _ _ i _ => M - (intOf i).toNat)
    case atStart => exact ⟨0, Nat.zero_le _, rfl, by rw [HP0.out, HR0.out]; exact Duo.nil _⟩
    case round =>
      obtain ⟨k, hk, rfl, hD⟩ := hrel
      have c2 : wr.cell? ⟨w.heap.size, 2, none⟩ = some (.slice a m cap) := (G1.behind hD.bel).cell (i := 2) rfl
      have d2 : wr.cell? ⟨w.heap.size + 1, 2, none⟩ = some (.slice b n cap') := (G2.behind hD.bel).cell (i := 2) rfl
      by_cases hlt : k < M
      · obtain ⟨oa, rfl, ka⟩ := HXO.out wr (below_both B hD.bel) k (by omega)
        obtain ⟨ob, rfl, kb⟩ := HYO.out wr (below_both B hD.bel) k (by omega)
        have hS4 := Nat.lt_of_lt_of_le hS B.size
        have hT4 := Nat.lt_of_lt_of_le hTT B.size
        have ka4 := (hD.bel.cell (p := ⟨S, oa + k, none⟩) hS4).symm.trans ka
        have kb4 := (hD.bel.cell (p := ⟨T, ob + k, none⟩) hT4).symm.trans kb
        have HK : Hid (∀ W, Below w4.heap.size w4 W → W.cell? ⟨w.heap.size, 2, none⟩ = some (.slice (some ⟨S, oa, none⟩) m cap) ∧ W.cell? ⟨w.heap.size + 1, 2, none⟩ = some (.slice (some ⟨T, ob, none⟩) n cap') ∧ W.cell? ⟨S, oa + k, none⟩ = some (.int .u64 (lim xs k : Int)) ∧ W.cell? ⟨T, ob + k, none⟩ = some (.int .u64 (lim ys k : Int))) := Lib.hid (fun W h =>
          ⟨(G1.behind h).cell (i := 2) rfl, (G2.behind h).cell (i := 2) rfl, (h.cell (p := ⟨S, oa + k, none⟩) hS4).trans ka4, (h.cell (p := ⟨T, ob + k, none⟩) hT4).trans kb4⟩)
        have h1 := HXL.out k
        have h2 := HYL.out k
        have HP1 : Hid (pairK plusU xs ys (k + 1) = pairK plusU xs ys k ++ [plusU (lim xs k) (lim ys k)]) := Lib.hid (HPS.out k)
        have HR1 : Hid (pairK minusU xs ys (k + 1) = pairK minusU xs ys k ++ [minusU (lim xs k) (lim ys k)]) := Lib.hid (HRS.out k)
        have hpl : (pairK plusU xs ys k).length + 1 ≤ 17592186044416 := by rw [HPL.out]; have := HMX2.out; omega
        have hrl : (pairK minusU xs ys k).length + 1 ≤ 17592186044416 := by rw [HRL.out]; have := HMX2.out; omega
        have hA1 := fun w => fadd_add (a := lim xs k) (b := lim ys k) (mode := 0) (w := w) (by omega) (by omega)
        have hA2 := fun w => fadd_sub (a := lim xs k) (b := lim ys k) (mode := 0) (w := w) (by omega) (by omega)
        rw [show (radd (lim xs k) (lim ys k) 0).1 = plusU (lim xs k) (lim ys k) from rfl] at hA1
        rw [show (rsubt (lim xs k) (lim ys k) 0).1 = minusU (lim xs k) (lim ys k) from rfl] at hA2
        have HA1 := Lib.hid hA1
        have HA2 := Lib.hid hA2
        clear hA1 hA2 h1 h2 ka kb ka4 kb4 c0 c1 d0 d1
        generalize lim xs k = x at *
        generalize lim ys k = y at *
        generalize plusU x y = s1 at *
        generalize minusU x y = r1 at *
        generalize (radd x y 0).2 = fl1 at *
        generalize (rsubt x y 0).2 = fl2 at *
        generalize pairK plusU xs ys k = Pk at *
        generalize pairK minusU xs ys k = Rk at *
        have tok1 : True := trivial
        have tok2 : True := trivial
        go_wp2_with fail
        go_region_held3 (fun W => W.cell? ⟨w.heap.size, 2, none⟩ = some (.slice (some ⟨S, oa, none⟩) m cap) ∧ W.cell? ⟨w.heap.size + 1, 2, none⟩ = some (.slice (some ⟨T, ob, none⟩) n cap') ∧ W.cell? ⟨S, oa + k, none⟩ = some (.int .u64 (x : Int)) ∧ W.cell? ⟨T, ob + k, none⟩ = some (.int .u64 (y : Int)))
          (first | with_reducible exact HK.out _ hD.bel | with_reducible exact HK.out _ hD.drew.bel | (refine ⟨?_, ?_, ?_, ?_⟩ <;> go_keep))
          (first
            | (go_at_call 27; (with_reducible refine (HA1.out _).mono ?_); rintro e v4 ⟨rfl, bz⟩; (first | replace hD := hD.below bz | replace hD := hD.drew.below bz); clear bz))
        go_wp2_with fail
        go_region_held3 (fun W => W.cell? ⟨w.heap.size, 2, none⟩ = some (.slice (some ⟨S, oa, none⟩) m cap) ∧ W.cell? ⟨w.heap.size + 1, 2, none⟩ = some (.slice (some ⟨T, ob, none⟩) n cap') ∧ W.cell? ⟨S, oa + k, none⟩ = some (.int .u64 (x : Int)) ∧ W.cell? ⟨T, ob + k, none⟩ = some (.int .u64 (y : Int)))
          (first | with_reducible exact HK.out _ hD.bel | with_reducible exact HK.out _ hD.drew.bel | (refine ⟨?_, ?_, ?_, ?_⟩ <;> go_keep))
          (first
            | (go_at_call 28; (with_reducible refine (HA2.out _).mono ?_); rintro e v4 ⟨rfl, bz⟩; (first | replace hD := hD.below bz | replace hD := hD.drew.below bz); clear bz))
        go_wp2_with (first | (at_builtin; clear tok1; refine list_duo rfl _ _ rfl rfl rfl (cell_new1 _ _ _) (hD.alloc _) hpl ?_; intro p2 w6 hD2) | (at_builtin; clear tok2; refine list_duo' rfl _ _ rfl rfl rfl (cell_new1 _ _ _) (hD2.alloc _) hrl ?_; intro r2 w7 hD3))
        exact ⟨⟨k + 1, by omega, by simp, by rw [HP1.out, HR1.out]; exact hD3⟩, by simp [intOf]; omega⟩
      · obtain rfl : k = M := by omega
        clear hlt
        have hway : (k < m ∧ k = n) ∨ m ≤ k := by omega
        rcases hway with ⟨hkm, hkn⟩ | hkm
        · subst hkn
          go_wp2_with fail
          go_meet
          exact hD
        · go_wp2_with fail
          go_meet
          exact hD
  obtain ⟨wo, rfl⟩ : ∃ wo, wo = wc := ⟨_, rfl⟩
  have hTb := hcut.bel
  have hT1 := hcut.2.1
  have hT2 := hcut.2.2.1
  clear hcut
  have hPK : Hid (m = n → pairK plusU xs ys M = pairV plusU xs ys ∧ pairK minusU xs ys M = pairV minusU xs ys ∧ (pairV plusU xs ys).length = m ∧ (pairV minusU xs ys).length = m) := Lib.hid (fun h => by
    have e : M = xs.length := by have := HMX.out; have := HMH.out; omega
    refine ⟨by rw [e]; rfl, by rw [e]; rfl, ?_, ?_⟩
    · unfold pairV; rw [rowV_length]; exact HMX.out.symm
    · unfold pairV; rw [rowV_length]; exact HMX.out.symm)
  obtain ⟨QF, hQF⟩ : ∃ QF : Nat → List Nat, QF = fun k => rowV k fun j => timesU p (lim xs j) := ⟨_, rfl⟩
  have HQS : Hid (∀ k, QF (k + 1) = QF k ++ [timesU p (lim xs k)]) := Lib.hid (fun k => by rw [hQF]; exact rowV_succ _ _)
  have HQL : Hid (∀ k, (QF k).length = k) := Lib.hid (fun k => by rw [hQF]; exact rowV_length _ _)
  have HQ0 : Hid (QF 0 = []) := Lib.hid (by rw [hQF]; rfl)
  have HQW : Hid (QF m = scalV p xs) := Lib.hid (by rw [hQF, HMX.out]; rfl)
  have HQB : Hid (∀ k, Low 18446744073709551616 (QF k)) := Lib.hid (fun k => by rw [hQF]; exact rowV_low fun j _ => timesU_lt _ _)
  have HPB : Hid (∀ k, Low 18446744073709551616 (pairK plusU xs ys k)) := Lib.hid (fun k => rowV_low fun j _ => plusU_lt (by have := HXL.out j; omega) (by have := HYL.out j; omega))
  have HRB : Hid (∀ k, Low 18446744073709551616 (pairK minusU xs ys k)) := Lib.hid (fun k => rowV_low fun j _ => minusU_lt (by have := HXL.out j; omega) (by have := HYL.out j; omega))
  clear hQF HPS HRS HP0 HR0 HYL HYO c0 c1 d0 d1
  have c2 := (G1.behind hTb).cell (i := 2) rfl
  go_upto_block 2 with (fail)
  go_cut [11] from 17 to 125 (fun q wx => OwnK .u64 32 wo.heap.size wx q (zn (QF m)) ∧ Below wo.heap.size wo wx)
  case first =>
   as_aux_lemma =>
    go_wp2_with fail
    go_loopw [11, 17] (fun q i wx => ∃ j : Nat, j ≤ m ∧ i = .int .i64 j ∧ OwnK .u64 32 wo.heap.size wx q (zn (QF j)) ∧ Below wo.heap.size wo wx) (fun _ i _ => m - (intOf i).toNat)
    case atStart => exact ⟨0, Nat.zero_le _, rfl, by rw [HQ0.out]; exact OwnK.nil _ _ _ _, Below.refl _ _⟩
    case round =>
      obtain ⟨j, hj, rfl, hQ, hB⟩ := hrel
      have c2 : wr.cell? ⟨w.heap.size, 2, none⟩ = some (.slice a m cap) := ((G1.behind hTb).behind hB).cell (i := 2) rfl
      by_cases hjm : j < m
      · obtain ⟨oa, rfl, ka⟩ := HXO.out wr (below_both B (below_both hTb hB)) j hjm
        have h1 := HXL.out j
        have HQ1 := Lib.hid (HQS.out j)
        have hql : (zn (QF j)).length + 1 ≤ 17592186044416 := by rw [zn_length, HQL.out]; omega
        have hM1 := fun w => fmul_mul (a := p) (b := lim xs j) (mode := 0) (w := w) hp (by omega)
        rw [show (rmul p (lim xs j) 0).1 = timesU p (lim xs j) from rfl] at hM1
        have HM1 := Lib.hid hM1
        clear hM1 h1
        generalize lim xs j = x at *
        generalize (rmul p x 0).2 = fl at *
        generalize timesU p x = u at *
        generalize QF j = Qj at *
        have hwo := hB.size
        go_wp2_with fail
        refine (HM1.out _).mono ?_
        rintro e w6 ⟨rfl, b6⟩
        have hQ2 := hQ.below b6
        have hB2 := below_both hB b6
        have hsz2 : wo.heap.size ≤ (w6.alloc (.cells #[.int .u64 (u : Int)] 32)).heap.size := by have := hB2.size; rw [World.size_alloc]; omega
        go_wp2_with (at_builtin; refine app_u64 rfl _ _ rfl rfl rfl (cell_new1 _ _ _) (hQ2.alloc _) hql hsz2 ?_; intro v' w7 hQ3 b7)
        have hbb := hB2.trans (((Below.refl wo.heap.size _).alloc hB2.size _).trans b7)
        have hqq := hQ3
        rw [← zn_snoc, ← HQ1.out] at hqq
        exact ⟨⟨j + 1, by omega, by simp, hqq, hbb⟩, by simp [intOf]; omega⟩
      · obtain rfl : j = m := by omega
        clear hjm
        go_wp2_with fail
        go_meet
        exact ⟨hQ, hB⟩
  obtain ⟨hQ, hB⟩ := hcut
  have hP1 := hT1.below hB
  have hR1 := hT2.below hB
  have hQ1 := hQ.mono hTb.size
  replace hTb := below_both hTb hB
  have hBw := below_both B hTb
  have hpw := Nat.lt_of_lt_of_le hpos hBw.size
  have HQF : Hid (∀ j, QF j = QF j) := Lib.hid (fun _ => rfl)
  have nP := new_zn.2 (hP1.new hpw)
  have nR := new_zn.2 (hR1.new hpw)
  have nQ := new_zn.2 (hQ1.new hpw)
  rw [HQW.out] at nQ
  have aP := Lib.hid nP.arg
  have aR := Lib.hid nR.arg
  have aQ := Lib.hid nQ.arg
  obtain ⟨pa, pc, ep⟩ := nP.arg.slice
  obtain ⟨ra, rc, er⟩ := nR.arg.slice
  obtain ⟨qa, qc, eq⟩ := nQ.arg.slice
  rw [HPL.out] at ep
  rw [HRL.out] at er
  subst ep er eq
  have HPF : Hid ((pairK plusU xs ys M).length = M ∧ (pairK minusU xs ys M).length = M ∧ Low 18446744073709551616 (pairK plusU xs ys M) ∧ Low 18446744073709551616 (pairK minusU xs ys M) ∧ Low 18446744073709551616 (scalV p xs) ∧ (scalV p xs).length = m) := Lib.hid ⟨HPL.out _, HRL.out _, HPB.out _, HRB.out _, HQW.out ▸ HQB.out m, by unfold scalV; rw [rowV_length]; exact HMX.out.symm⟩
  have HMN : Hid (F = 0 → pairV plusU xs ys = pairK plusU xs ys M ∧ pairV minusU xs ys = pairK minusU xs ys M ∧ mayM R C M = true) := Lib.hid (fun h => by
    obtain ⟨h1, h2⟩ := HFK.out h
    obtain ⟨e1, e2, _, _⟩ := hPK.out h2
    have hMm : M = m := by have := HMH.out; omega
    exact ⟨e1.symm, e2.symm, by rw [hMm]; exact h1⟩)
  have HMG : Hid (G = 0 → mayM R C (scalV p xs).length = true) := Lib.hid (fun h => by rw [HPF.out.2.2.2.2.2]; exact HGK.out h)
  have hsl : (scalV p xs).length = m := HPF.out.2.2.2.2.2
  rw [hsl] at aQ
  clear hT1 hT2 hQ hB hP1 hR1 hQ1 nP nR nQ HPL HRL HPB HRB HQB HQW HQS HQ0 HQL hPK HQF HXO HXL HMH
  have e1 := tellV_same (ws := pairV plusU xs ys) (ws' := pairK plusU xs ys M) (f := F) (fun h => (HMN.out h).1)
  have e2 := tellV_same (ws := pairV minusU xs ys) (ws' := pairK minusU xs ys M) (f := F) (fun h => (HMN.out h).2.1)
  rw [e1.2, e1.1] at HAD
  rw [e2.2, e2.1] at HSU
  clear e1 e2
  have HBW := Lib.hid hBw
  replace G1 := G1.behind hTb
  replace G2 := G2.behind hTb
  have c0 := G1.cell (i := 0) rfl
  have c1 := G1.cell (i := 1) rfl
  have c2 := G1.cell (i := 2) rfl
  have d0 := G2.cell (i := 0) rfl
  have d1 := G2.cell (i := 1) rfl
  have d2 := G2.cell (i := 2) rfl
  go_wp2_with fail
  refine (HAD.out _ hBw).mono ?_
  rintro e w5 ⟨R5, C5, b5, n5, c5, rfl, hN5, hR5, k5⟩
  obtain ⟨j5, K5⟩ := mbox w5 #[.int .i64 R5, .int .i64 C5, .slice b5 n5 c5] 24 _ rfl
  have B5 := below_both k5 j5
  have c0 := (G1.behind B5).cell (i := 0) rfl
  have c1 := (G1.behind B5).cell (i := 1) rfl
  have c2 := (G1.behind B5).cell (i := 2) rfl
  have d0 := (G2.behind B5).cell (i := 0) rfl
  have d1 := (G2.behind B5).cell (i := 1) rfl
  have d2 := (G2.behind B5).cell (i := 2) rfl
  have A5 := Lib.hid (hN5.arg.behind j5)
  have R5H := Lib.hid hR5
  clear hN5 hR5 j5 k5
  go_wp2_with fail
  generalize w5.alloc (.cells #[.int .i64 R5, .int .i64 C5, .slice b5 n5 c5] 24) = w5' at *
  refine (HSU.out _ (below_both hBw B5)).mono ?_
  rintro e w6 ⟨R6, C6, b6, n6, c6, rfl, hN6, hR6, k6⟩
  obtain ⟨j6, K6⟩ := mbox w6 #[.int .i64 R6, .int .i64 C6, .slice b6 n6 c6] 24 _ rfl
  have B6' := below_both k6 j6
  have B6 := below_both B5 B6'
  have c0 := (G1.behind B6).cell (i := 0) rfl
  have c1 := (G1.behind B6).cell (i := 1) rfl
  have c2 := (G1.behind B6).cell (i := 2) rfl
  replace K5 := K5.behind B6'
  replace A5 := Lib.hid (A5.out.behind B6')
  have A6 := Lib.hid (hN6.arg.behind j6)
  have R6H := Lib.hid hR6
  clear hN6 hR6 j6 k6 B6' d0 d1 d2
  go_wp2_with fail
  generalize w6.alloc (.cells #[.int .i64 R6, .int .i64 C6, .slice b6 n6 c6] 24) = w6' at *
  refine (HSC.out _ (below_both hBw B6)).mono ?_
  rintro e w7 ⟨R7, C7, b7, n7, c7, rfl, hN7, hR7, k7⟩
  obtain ⟨j7, K7⟩ := mbox w7 #[.int .i64 R7, .int .i64 C7, .slice b7 n7 c7] 24 _ rfl
  have B7' := below_both k7 j7
  have B7 := below_both B6 B7'
  replace K5 := K5.behind B7'
  replace K6 := K6.behind B7'
  replace A5 := Lib.hid (A5.out.behind B7')
  replace A6 := Lib.hid (A6.out.behind B7')
  have A7 := Lib.hid (hN7.arg.behind j7)
  have R7H := Lib.hid hR7
  clear hN7 hR7 j7 k7 B7' HAD HSU HSC
  have I1 := Lib.hid (fun (W : World) (h : Below (w7.alloc (.cells #[.int .i64 R7, .int .i64 C7, .slice b7 n7 c7] 24)).heap.size (w7.alloc (.cells #[.int .i64 R7, .int .i64 C7, .slice b7 n7 c7] 24)) W) =>
    l20_told (R := R) (C := C) (R2 := R5) (C2 := C5) (A5.out.behind h) (aP.out.behind (below_both B7 h)) HPF.out.2.2.1 (by rw [HPF.out.1]; omega) (fun h => by rw [HPF.out.1]; exact (HMN.out h).2.2) R5H.out)
  have I2 := Lib.hid (fun (W : World) (h : Below (w7.alloc (.cells #[.int .i64 R7, .int .i64 C7, .slice b7 n7 c7] 24)).heap.size (w7.alloc (.cells #[.int .i64 R7, .int .i64 C7, .slice b7 n7 c7] 24)) W) =>
    l20_told (R := R) (C := C) (R2 := R6) (C2 := C6) (A6.out.behind h) (aR.out.behind (below_both B7 h)) HPF.out.2.2.2.1 (by rw [HPF.out.2.1]; omega) (fun h => by rw [HPF.out.2.1]; exact (HMN.out h).2.2) R6H.out)
  have I3 := Lib.hid (fun (W : World) (h : Below (w7.alloc (.cells #[.int .i64 R7, .int .i64 C7, .slice b7 n7 c7] 24)).heap.size (w7.alloc (.cells #[.int .i64 R7, .int .i64 C7, .slice b7 n7 c7] 24)) W) =>
    l20_told (R := R) (C := C) (R2 := R7) (C2 := C7) (A7.out.behind h) (aQ.out.behind (below_both B7 h)) HPF.out.2.2.2.2.1 (by rw [hsl]; omega) HMG.out R7H.out)
  generalize tellV (pairK plusU xs ys M) F = X1 at *
  generalize tellV (pairK minusU xs ys M) F = X2 at *
  generalize tellV (scalV p xs) G = X3 at *
  replace G1 := G1.behind B7
  have c0 := G1.cell (i := 0) rfl
  have c1 := G1.cell (i := 1) rfl
  have u0 := K5.cell (i := 0) rfl
  have u1 := K5.cell (i := 1) rfl
  have u2 := K5.cell (i := 2) rfl
  have v0 := K6.cell (i := 0) rfl
  have v1 := K6.cell (i := 1) rfl
  have v2 := K6.cell (i := 2) rfl
  have z0 := K7.cell (i := 0) rfl
  have z1 := K7.cell (i := 1) rfl
  have z2 := K7.cell (i := 2) rfl
  clear hsl A5 A6 A7 aP aR aQ
  go_wp2_with fail
  generalize hw8 : w7.alloc (.cells #[.int .i64 R7, .int .i64 C7, .slice b7 n7 c7] 24) = w8 at *
  clear hw8
  refine (I1.out _ (Below.refl _ _)).mono ?_
  rintro e w9 ⟨rfl, k9⟩
  have c0 := (G1.behind k9).cell (i := 0) rfl
  have c1 := (G1.behind k9).cell (i := 1) rfl
  have v0 := (K6.behind k9).cell (i := 0) rfl
  have v1 := (K6.behind k9).cell (i := 1) rfl
  have v2 := (K6.behind k9).cell (i := 2) rfl
  go_wp2_with fail
  refine (I2.out _ k9).mono ?_
  rintro e w10 ⟨rfl, k10⟩
  have k10 := below_both k9 k10
  have c0 := (G1.behind k10).cell (i := 0) rfl
  have c1 := (G1.behind k10).cell (i := 1) rfl
  have z0 := (K7.behind k10).cell (i := 0) rfl
  have z1 := (K7.behind k10).cell (i := 1) rfl
  have z2 := (K7.behind k10).cell (i := 2) rfl
  go_wp2_with fail
  refine (I3.out _ k10).mono ?_
  rintro e w11 ⟨rfl, k11⟩
  have HBZ := Lib.hid (below_both hBw (below_both B7 (below_both k10 k11)))
  go_wp2
  go_ret
  exact ⟨rfl, HBZ.out⟩
end Go.Proofs.Ytjiilechfjkkfaa
