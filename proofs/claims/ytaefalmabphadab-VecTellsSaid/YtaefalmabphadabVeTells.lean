/- vernierlaw19.VecTells, walked. -/
import Derived.Test.YtaefalmabphadabVeTwo
import Derived.Deep.RegionHeld3
namespace Go.Proofs.Ytaefalmabphadab
open Go.RowKit Go.Shelf
theorem Two.bel {w W : World} {p r : Value} {P R : List Nat} (h : Two w W p r P R) : Below w.heap.size w W := h.1
set_option maxRecDepth 100000 in
set_option maxHeartbeats 16000000 in
theorem vecTells_calls {va vb : Value} {xs ys : List Nat} {a : Nat} {w : World} (ha : (a : Int) ≤ 18446744073709551615) (hX : Arg w va xs) (hY : Arg w vb ys) (hx : Low 18446744073709551616 xs) (hy : Low 18446744073709551616 ys) (hxn : xs.length ≤ 17592186044416) (hyn : ys.length ≤ 17592186044416) :
    Calls Try.prog 7 #[.int .u64 (a : Int), va, vb] w fun e W' => e = .returned (.bool true) ∧ Below w.heap.size w W' := by
  have hal := l_alive19 w
  have hpos : 0 < w.heap.size := by obtain ⟨S, hS, _⟩ := hX; omega
  have HB0 : Hid (∀ (W : World), Below w.heap.size w W → Calls Try.prog 32 #[va, vb, .int .i64 0] W fun e W' => e = .returned (.int .i64 (bothV xs ys 0)) ∧ Below W.heap.size W W') := Lib.hid (fun W h => l_both (hX.behind h) (hY.behind h) hx hy hxn hyn)
  have HB1 : Hid (∀ (W : World), Below w.heap.size w W → Calls Try.prog 32 #[va, vb, .int .i64 (nfE a)] W fun e W' => e = .returned (.int .i64 (bothV xs ys (nfE a))) ∧ Below W.heap.size W W') := Lib.hid (fun W h => l_both (hX.behind h) (hY.behind h) hx hy hxn hyn)
  have HCK : Hid (∀ (W : World), Below w.heap.size w W → Calls Try.prog 34 #[va] W fun e W' => e = .returned (.int .i64 (chkV xs)) ∧ Below W.heap.size W W') := Lib.hid (fun W h => l_check (hX.behind h) hx hxn)
  have HVC : Hid (∀ (W : World), Below w.heap.size w W → Calls Try.prog 41 #[va] W fun e W' => e = .returned (.int .i64 (chkV xs)) ∧ Below W.heap.size W W') := Lib.hid (fun W h => vec_check (hX.behind h) hx hxn)
  have HDO : Hid (∀ (W : World), Below w.heap.size w W → Calls Try.prog 37 #[va, vb] W fun e W' => e = .returned (.tuple #[.int .u64 (dotR xs ys : Int), .int .i64 (dotE xs ys)]) ∧ Below W.heap.size W W') := Lib.hid (fun W h => vec_dot (hX.behind h) (hY.behind h) hx hy hxn hyn)
  have HAX := Lib.hid (fun (W : World) (h : Below w.heap.size w W) => vec_axpy ha (hX.behind h) (hY.behind h) hx hy hxn hyn)
  have HSC := Lib.hid (fun (W : World) (h : Below w.heap.size w W) => vec_scal ha (hX.behind h) hx hxn)
  have HAD := Lib.hid (fun (W : World) (h : Below w.heap.size w W) => vec_addv (hX.behind h) (hY.behind h) hx hy hxn hyn)
  have HCA := Lib.hid (fun w => class6 (a := a) (W := w) ha)
  have HG : Hid (bothV xs xs (nfE a) = if chkV xs ≠ 0 then chkV xs else nfE a) := Lib.hid (chk_self _ _)
  have HNF : Hid (nfE a = if 2 ≤ cls a then 12 else 0) := Lib.hid rfl
  have HDE : Hid (dotE xs ys = if bothV xs ys 0 ≠ 0 then bothV xs ys 0 else if cls (dotV xs ys xs.length) ≤ 1 then 0 else 13) := Lib.hid rfl
  have HDR : Hid (dotR xs ys = if dotE xs ys = 0 then dotV xs ys xs.length else 0) := Lib.hid rfl
  have HLN : Hid (bothV xs ys 0 = 0 → xs.length = ys.length) := Lib.hid (fun h => (bothV_ok h).2.2.2)
  have HXL := Lib.hid (fun k => lim_lt hx (by decide : 0 < 18446744073709551616) k)
  have HYL := Lib.hid (fun k => lim_lt hy (by decide : 0 < 18446744073709551616) k)
  -- what the loops make
  have HDL := Lib.hid (dotV_lt xs ys)
  have HD0 := Lib.hid (show dotV xs ys 0 = 0 from rfl)
  have HDS := Lib.hid (show ∀ k, dotV xs ys (k + 1) = plusU (dotV xs ys k) (timesU (lim xs k) (lim ys k)) from fun _ => rfl)
  obtain ⟨M, hM⟩ : ∃ M, M = min xs.length ys.length := ⟨_, rfl⟩
  obtain ⟨PF, hPF⟩ : ∃ PF : Nat → List Nat, PF = fun k => rowV k fun j => plusU (lim ys j) (timesU a (lim xs j)) := ⟨_, rfl⟩
  obtain ⟨RF, hRF⟩ : ∃ RF : Nat → List Nat, RF = fun k => rowV k fun j => plusU (lim xs j) (lim ys j) := ⟨_, rfl⟩
  obtain ⟨QF, hQF⟩ : ∃ QF : Nat → List Nat, QF = fun k => rowV k fun j => timesU a (lim xs j) := ⟨_, rfl⟩
  have HPS : Hid (∀ k, PF (k + 1) = PF k ++ [plusU (lim ys k) (timesU a (lim xs k))]) := Lib.hid (fun k => by rw [hPF]; exact rowV_succ _ _)
  have HRS : Hid (∀ k, RF (k + 1) = RF k ++ [plusU (lim xs k) (lim ys k)]) := Lib.hid (fun k => by rw [hRF]; exact rowV_succ _ _)
  have HQS : Hid (∀ k, QF (k + 1) = QF k ++ [timesU a (lim xs k)]) := Lib.hid (fun k => by rw [hQF]; exact rowV_succ _ _)
  have HPL : Hid (∀ k, (PF k).length = k) := Lib.hid (fun k => by rw [hPF]; exact rowV_length _ _)
  have HRL : Hid (∀ k, (RF k).length = k) := Lib.hid (fun k => by rw [hRF]; exact rowV_length _ _)
  have HQL : Hid (∀ k, (QF k).length = k) := Lib.hid (fun k => by rw [hQF]; exact rowV_length _ _)
  have HP0 : Hid (PF 0 = []) := Lib.hid (by rw [hPF]; rfl)
  have HR0 : Hid (RF 0 = []) := Lib.hid (by rw [hRF]; rfl)
  have HQ0 : Hid (QF 0 = []) := Lib.hid (by rw [hQF]; rfl)
  have HPW : Hid (axpyV a xs ys = PF M) := Lib.hid (by rw [hPF, hM]; rfl)
  have HRW : Hid (addV xs ys = RF M) := Lib.hid (by rw [hRF, hM]; rfl)
  have HQW : Hid (scalV a xs = QF xs.length) := Lib.hid (by rw [hQF]; rfl)
  have HPB : Hid (∀ k, Low 18446744073709551616 (PF k)) := Lib.hid (fun k => by rw [hPF]; exact rowV_low fun j _ => plusU_lt (by have := HYL.out j; omega) (timesU_lt _ _))
  have HRB : Hid (∀ k, Low 18446744073709551616 (RF k)) := Lib.hid (fun k => by rw [hRF]; exact rowV_low fun j _ => plusU_lt (by have := HXL.out j; omega) (by have := HYL.out j; omega))
  have HQB : Hid (∀ k, Low 18446744073709551616 (QF k)) := Lib.hid (fun k => by rw [hQF]; exact rowV_low fun j _ => timesU_lt _ _)
  clear hPF hRF hQF
  rw [HPW.out] at HAX
  rw [HQW.out] at HSC
  rw [HRW.out] at HAD
  clear HPW HRW HQW
  obtain ⟨S, sa, sc, hS, rfl, _, HXO⟩ := hX.opened
  obtain ⟨T, ta, tc, hTT, rfl, _, HYO⟩ := hY.opened
  clear hX hY hx hy
  generalize bothV xs xs (nfE a) = G at *
  generalize bothV xs ys (nfE a) = E1 at *
  generalize nfE a = N at *
  generalize bothV xs ys 0 = E0 at *
  generalize dotR xs ys = DR at *
  generalize dotE xs ys = DE at *
  generalize dotV xs ys = F at *
  generalize chkV xs = C at *
  have hMm : M ≤ xs.length := by omega
  have hMn : M ≤ ys.length := by omega
  have hMe : M = xs.length ∨ M = ys.length := by omega
  have hEE : xs.length = ys.length → M = xs.length := by omega
  have HEE := Lib.hid hEE
  clear hM hEE
  generalize xs.length = m at *
  generalize ys.length = n at *
  go_enter Try.func7, Try.ntmps7
  go_wp2_with fail
  refine hal.mono ?_
  rintro e w1 ⟨rfl, b1⟩
  clear hal
  go_wp2_with fail
  refine (HB0.out _ b1).mono ?_
  rintro e w2 ⟨rfl, b2⟩
  have B2 := below_both b1 b2
  clear b1 b2
  go_wp2_with fail
  refine (HCA.out _).mono ?_
  rintro e w3 ⟨rfl, hw3⟩
  subst hw3
  go_upto_if 32 with (fail)
  go_cut [8] from 33 to 33 (fun u wx => u = .int .i64 N ∧ wx = w2)
  case first =>
    by_cases hc : 2 ≤ cls a
    · have d : decide ((1 : Int) < (cls a : Int)) = true := decide_eq_true (by omega)
      have hN : N = 12 := by rw [HNF.out, if_pos hc]
      subst hN
      go_wp2
      go_meet
      exact ⟨rfl, rfl⟩
    · have d : decide ((1 : Int) < (cls a : Int)) = false := decide_eq_false (by omega)
      have hN : N = 0 := by rw [HNF.out, if_neg hc]
      subst hN
      go_wp2
      go_meet
      exact ⟨rfl, rfl⟩
  obtain ⟨rfl, hw3⟩ := hcut
  cases hw3
  go_wp2_with fail
  refine (HB1.out _ B2).mono ?_
  rintro e w4 ⟨rfl, b4⟩
  have B4 := below_both B2 b4
  clear b4
  go_wp2_with fail
  refine (HCK.out _ B4).mono ?_
  rintro e w5 ⟨rfl, b5⟩
  have B5 := below_both B4 b5
  clear b5
  go_upto_if 40 with (fail)
  go_cut [10] from 41 to 41 (fun u wx => u = .int .i64 G ∧ wx = w5)
  case first =>
    by_cases hc : C = 0
    · have hG : G = N := by rw [HG.out, if_neg (by simp [hc])]
      subst hc hG
      go_wp2
      go_meet
      exact ⟨rfl, rfl⟩
    · have d : (C == 0) = false := beq_eq_false_iff_ne.2 hc
      have hG : G = C := by rw [HG.out, if_pos hc]
      subst hG
      go_wp2
      go_meet
      exact ⟨rfl, rfl⟩
  obtain ⟨rfl, hw3⟩ := hcut
  cases hw3
  go_wp2_with fail
  go_loopw [11, 12, 14, 15] (fun s p r i wr => ∃ k n0 : Nat, k ≤ M ∧ i = .int .i64 k ∧ s = .int .u64 (n0 : Int) ∧ Hid (n0 = F k) ∧ Two w wr p r (PF k) (RF k)) (fun _ _ _ i _ => M - (intOf i).toNat)
  case atStart => exact ⟨0, 0, Nat.zero_le _, rfl, rfl, Lib.hid HD0.out.symm, B5, by rw [HP0.out]; exact OwnK.nil _ _ _ _, by rw [HR0.out]; exact OwnK.nil _ _ _ _, by intro g h; cases h⟩
  case round =>
    obtain ⟨k, n0, hk, rfl, rfl, HN, hT⟩ := hrel
    by_cases hlt : k < M
    · obtain ⟨oa, rfl, ka⟩ := HXO.out wr hT.1 k (by omega)
      obtain ⟨ob, rfl, kb⟩ := HYO.out wr hT.1 k (by omega)
      have HKX : Hid (∀ W, Below w.heap.size w W → W.cell? ⟨S, oa + k, none⟩ = some (.int .u64 (lim xs k : Int))) := Lib.hid (fun W h => ((h.cell (p := ⟨S, oa + k, none⟩) hS).trans (hT.1.cell (p := ⟨S, oa + k, none⟩) hS).symm).trans ka)
      have HKY : Hid (∀ W, Below w.heap.size w W → W.cell? ⟨T, ob + k, none⟩ = some (.int .u64 (lim ys k : Int))) := Lib.hid (fun W h => ((h.cell (p := ⟨T, ob + k, none⟩) hTT).trans (hT.1.cell (p := ⟨T, ob + k, none⟩) hTT).symm).trans kb)
      have h1 := HXL.out k
      have h2 := HYL.out k
      have h3 : (n0 : Int) ≤ 18446744073709551615 := by have := HDL.out k; rw [← HN.out] at this; omega
      have HS : Hid (F (k + 1) = plusU n0 (timesU (lim xs k) (lim ys k))) := Lib.hid (by rw [HDS.out, HN.out])
      have HP1 := Lib.hid (HPS.out k)
      have HR1 := Lib.hid (HRS.out k)
      have hpl := HPL.out k
      have hrl := HRL.out k
      generalize lim xs k = x at *
      generalize lim ys k = y at *
      have t1 := timesU_lt x y
      have t2 := timesU_lt a x
      have HT1 := Lib.hid (fun w => l_times (a := x) (b := y) (w := w) (by omega) (by omega))
      have HT2 := Lib.hid (fun w => l_times (a := a) (b := x) (w := w) ha (by omega))
      have HA1 := Lib.hid (fun w => l_plus (a := n0) (b := timesU x y) (w := w) h3 (by omega))
      have HA2 := Lib.hid (fun w => l_plus (a := y) (b := timesU a x) (w := w) (by omega) (by omega))
      have HA3 := Lib.hid (fun w => l_plus (a := x) (b := y) (w := w) (by omega) (by omega))
      generalize timesU x y = t at *
      generalize timesU a x = u at *
      generalize plusU n0 t = s1 at *
      generalize plusU y u = p1 at *
      generalize plusU x y = r1 at *
      generalize PF k = Pk at *
      generalize RF k = Rk at *
      clear h1 h2 h3 t1 t2 ka kb
      go_wp2_with fail
      go_region_held3 (fun w' => w'.cell? ⟨S, oa + k, none⟩ = some (.int .u64 (x : Int)) ∧ w'.cell? ⟨T, ob + k, none⟩ = some (.int .u64 (y : Int)))
        (first | with_reducible exact ⟨HKX.out _ hT.bel, HKY.out _ hT.bel⟩ | with_reducible exact ⟨HKX.out _ hT.drew.bel, HKY.out _ hT.drew.bel⟩ | (refine ⟨?_, ?_⟩ <;> go_keep))
        (first
          | (go_at_call 36; (with_reducible refine (HT1.out _).mono ?_); rintro e v4 ⟨rfl, bz⟩; (first | replace hT := hT.below bz | replace hT := hT.drew.below bz); clear bz)
          | (go_at_call 35; (with_reducible refine (HA1.out _).mono ?_); rintro e v4 ⟨rfl, bz⟩; (first | replace hT := hT.below bz | replace hT := hT.drew.below bz); clear bz))
      go_wp2_with fail
      go_region_held3 (fun w' => w'.cell? ⟨S, oa + k, none⟩ = some (.int .u64 (x : Int)) ∧ w'.cell? ⟨T, ob + k, none⟩ = some (.int .u64 (y : Int)))
        (first | with_reducible exact ⟨HKX.out _ hT.bel, HKY.out _ hT.bel⟩ | with_reducible exact ⟨HKX.out _ hT.drew.bel, HKY.out _ hT.drew.bel⟩ | with_reducible exact ⟨HKX.out _ (hT.alloc _).bel, HKY.out _ (hT.alloc _).bel⟩ | (refine ⟨?_, ?_⟩ <;> go_keep))
        (first
          | (go_at_call 36; (with_reducible refine (HT2.out _).mono ?_); rintro e v4 ⟨rfl, bz⟩; (first | replace hT := hT.below bz | replace hT := hT.drew.below bz); clear bz)
          | (go_at_call 35; (with_reducible refine (HA2.out _).mono ?_); rintro e v4 ⟨rfl, bz⟩; (first | replace hT := hT.below bz | replace hT := hT.drew.below bz); clear bz)
          | (go_at_call 35; (with_reducible refine (HA3.out _).mono ?_); rintro e v4 ⟨rfl, bz⟩; (first | replace hT := hT.below bz | replace hT := hT.drew.below bz); clear bz)
          | (refine step_two (by rfl) _ _ (by rfl) (by rfl) (by rfl) (cell_new1 _ _ _) (hT.alloc _) (by omega) ?_; intro p2 w6 hT)
          | (refine step_two' (by rfl) _ _ (by rfl) (by rfl) (by rfl) (cell_new1 _ _ _) (hT.alloc _) (by omega) ?_; intro r2 w7 hT))
      go_wp2
      go_roundw
      case rel => exact ⟨k + 1, s1, by omega, by simp, rfl, Lib.hid HS.out.symm, by rw [HP1.out, HR1.out]; exact hT⟩
      case measure => simp [intOf]; omega
    · obtain rfl : k = M := by omega
      have hTb := hT.bel
      have hT1 := hT.2.1
      have hT2 := hT.2.2.1
      clear hlt hT
      have hn0 : (n0 : Int) ≤ 18446744073709551615 := by have := HDL.out k; rw [← HN.out] at this; omega
      have HDE2 : Hid (E0 = 0 → DE = if cls n0 ≤ 1 then 0 else 13) := Lib.hid (fun h => by rw [HDE.out, if_neg (by simp [h]), HN.out, HEE.out (HLN.out h)])
      have HDE3 : Hid (E0 ≠ 0 → DE = E0) := Lib.hid (fun h => by rw [HDE.out, if_pos h])
      have HDR2 : Hid (E0 = 0 → DR = if DE = 0 then n0 else 0) := Lib.hid (fun h => by rw [HDR.out, HN.out, HEE.out (HLN.out h)])
      have HDR3 : Hid (E0 ≠ 0 → DR = 0) := Lib.hid (fun h => by rw [HDR.out, if_neg (by rw [HDE3.out h]; exact h)])
      clear HDE HDR HN HDS HD0 HDL HEE HLN HPS HRS HP0 HR0 HB0 HB1 HCA HG HNF
      obtain ⟨wo, rfl⟩ : ∃ wo, wo = wr := ⟨_, rfl⟩
      have hway : (k < m ∧ k = n) ∨ m ≤ k := by omega
      rcases hway with ⟨hkm, hkn⟩ | hkm
      all_goals
        try subst hkn
        go_wp2_with fail
        go_loopw [13, 16] (fun q i wx => ∃ j : Nat, j ≤ m ∧ i = .int .i64 j ∧ OwnK .u64 42 wo.heap.size wx q (zn (QF j)) ∧ Below wo.heap.size wo wx) (fun _ i _ => m - (intOf i).toNat)
        case atStart => exact ⟨0, Nat.zero_le _, rfl, by rw [HQ0.out]; exact OwnK.nil _ _ _ _, Below.refl _ _⟩
        case round =>
          obtain ⟨j, hj, rfl, hQ, hB⟩ := hrel
          by_cases hjm : j < m
          · obtain ⟨oa, rfl, ka⟩ := HXO.out wr (below_both hTb hB) j hjm
            have h1 := HXL.out j
            have HQ1 := Lib.hid (HQS.out j)
            have hql := HQL.out j
            generalize lim xs j = x at *
            generalize QF j = Qj at *
            have HT2 := Lib.hid (fun w => l_times (a := a) (b := x) (w := w) ha (by omega))
            generalize timesU a x = u at *
            have hwo := hB.size
            go_wp2_with fail
            refine (HT2.out _).mono ?_
            rintro e w6 ⟨rfl, b6⟩
            have hQ2 := hQ.below b6
            have hB2 := below_both hB b6
            go_wp2_with (at_builtin; refine app_u64 rfl _ _ rfl rfl rfl (cell_new1 _ _ _) (hQ2.alloc _) (by rw [zn_length]; omega) (by have := hB2.size; simp; omega) ?_; intro v' w7 hQ3 b7)
            first
              | (go_wp2; go_roundw)
              | go_roundw
            case rel =>
              have hbb := hB2.trans (((Below.refl wo.heap.size _).alloc hB2.size _).trans b7)
              have hqq := hQ3
              rw [← zn_snoc, ← HQ1.out] at hqq
              first
                | exact ⟨j + 1, by omega, by simp, hqq, hbb⟩
                | exact ⟨v', .int .i64 ((j : Int) + 1), _, _, _, _, _, _, _, _, _, _, _, _, _, _, _, ⟨j + 1, by omega, by simp, hqq, hbb⟩, rfl⟩
            case measure => simp [intOf]; omega
          · obtain rfl : j = m := by omega
            have hBw := below_both hTb hB
            have hP1 := hT1.below hB
            have hR1 := hT2.below hB
            have hQ1 := hQ.mono hTb.size
            clear hjm hT1 hT2 hQ hB HXL HYL HQS HXO HYO
            go_wp2_with fail
            refine (HDO.out _ hBw).mono ?_
            rintro e w8 ⟨rfl, b8⟩
            replace hBw := below_both hBw b8
            replace hP1 := hP1.below b8
            replace hR1 := hR1.below b8
            replace hQ1 := hQ1.below b8
            clear b8
            go_wp2_with fail
            refine (HAX.out _ hBw).mono ?_
            rintro e w9 ⟨l1, rfl, hL, b9⟩
            replace hL := hL.mono hBw.size
            replace hBw := below_both hBw b9
            replace hP1 := hP1.below b9
            replace hR1 := hR1.below b9
            replace hQ1 := hQ1.below b9
            clear b9
            go_wp2_with fail
            refine (HSC.out _ hBw).mono ?_
            rintro e w10 ⟨m1, rfl, hM1, b10⟩
            replace hM1 := hM1.mono hBw.size
            replace hBw := below_both hBw b10
            replace hP1 := hP1.below b10
            replace hR1 := hR1.below b10
            replace hQ1 := hQ1.below b10
            replace hL := hL.below b10
            clear b10
            go_wp2_with fail
            refine (HAD.out _ hBw).mono ?_
            rintro e w11 ⟨n1, rfl, hN1, b11⟩
            replace hN1 := hN1.mono hBw.size
            replace hBw := below_both hBw b11
            replace hP1 := hP1.below b11
            replace hR1 := hR1.below b11
            replace hQ1 := hQ1.below b11
            replace hL := hL.below b11
            replace hM1 := hM1.below b11
            have hp11 := Nat.lt_of_lt_of_le hpos hBw.size
            have aP := Lib.hid (new_zn.2 (hP1.new hp11)).arg
            have aR := Lib.hid (new_zn.2 (hR1.new hp11)).arg
            have aQ := Lib.hid (new_zn.2 (hQ1.new hp11)).arg
            have aL := Lib.hid (new_zn.2 (hL.new hp11)).arg
            have aM := Lib.hid (new_zn.2 (hM1.new hp11)).arg
            have aN := Lib.hid (new_zn.2 (hN1.new hp11)).arg
            clear b11 hP1 hR1 hQ1 hL hM1 hN1 HDO HAX HSC HAD
            have dC : (C != C) = false := by simp
            have dE : (E0 == E0) = true := by simp
            have i1 := fun (W : World) (h : Below w11.heap.size w11 W) => l_is (f := E1) (aL.out.behind h) (aP.out.behind h) (HPB.out _) (by rw [HPL.out]; omega)
            have i2 := fun (W : World) (h : Below w11.heap.size w11 W) => l_is (f := G) (aM.out.behind h) (aQ.out.behind h) (HQB.out _) (by rw [HQL.out]; omega)
            have i3 := fun (W : World) (h : Below w11.heap.size w11 W) => l_is (f := E0) (aN.out.behind h) (aR.out.behind h) (HRB.out _) (by rw [HRL.out]; omega)
            have I1 := Lib.hid i1
            have I2 := Lib.hid i2
            have I3 := Lib.hid i3
            clear i1 i2 i3 aP aR aQ aL aM aN
            generalize tellV (PF k) E1 = X1 at *
            generalize tellV (QF j) G = X2 at *
            generalize tellV (RF k) E0 = X3 at *
            go_wp2_with fail
            refine (HVC.out _ hBw).mono ?_
            rintro e w12 ⟨rfl, b12⟩
            go_wp2_with fail
            refine (HCK.out _ (below_both hBw b12)).mono ?_
            rintro e w13 ⟨rfl, b13⟩
            have c13 := below_both b12 b13
            clear b12 b13
            go_wp2_with fail
            refine (I1.out _ c13).mono ?_
            rintro e w14 ⟨rfl, b14⟩
            have c14 := below_both c13 b14
            clear b14
            go_wp2_with fail
            refine (I2.out _ c14).mono ?_
            rintro e w15 ⟨rfl, b15⟩
            have c15 := below_both c14 b15
            clear b15
            go_wp2_with fail
            refine (I3.out _ c15).mono ?_
            rintro e w16 ⟨rfl, b16⟩
            have c16 := below_both c15 b16
            have hBz := below_both hBw c16
            clear b16 c13 c14 c15 c16 I1 I2 I3 HVC HCK
            by_cases hE : E0 = 0
            · have h1 := HDE2.out hE
              have h2 := HDR2.out hE
              have af : Arg (w16.alloc (.cells #[.int .u64 (n0 : Int)] 42)) (.slice (some ⟨w16.heap.size, 0, none⟩) 1 1) [n0] := ⟨w16.heap.size, by rw [World.size_alloc]; omega, (Row.new w16 .u64 42 [n0]).rd 1 (by simp)⟩
              have hf := l_finite (e0 := 13) af (by intro x hx; simp at hx; omega) (by simp)
              have hfb : finB [n0] [n0].length = decide (cls n0 ≤ 1) := by simp [finB, lim]
              rw [hfb] at hf
              have hba := (Below.refl _ _).alloc hBz.size (.cells #[.int .u64 (n0 : Int)] 42)
              subst hE
              by_cases hc : cls n0 ≤ 1
              · rw [if_pos hc] at h1
                subst h1
                rw [if_pos rfl] at h2
                subst h2
                rw [decide_eq_true hc, if_pos rfl] at hf
                have dn : (((DR : Nat) : Int) == ((DR : Nat) : Int)) = true := by simp
                clear hfb hc af
                go_wp2_with fail
                refine hf.mono ?_
                rintro e w17 ⟨rfl, b17⟩
                go_wp2
                go_ret
                exact ⟨rfl, below_both (hBz.trans hba) b17⟩
              · rw [if_neg hc] at h1
                subst h1
                rw [if_neg (by decide)] at h2
                subst h2
                rw [decide_eq_false hc, if_neg (by decide)] at hf
                clear hfb hc af
                go_wp2_with fail
                refine hf.mono ?_
                rintro e w17 ⟨rfl, b17⟩
                go_wp2
                go_ret
                exact ⟨rfl, below_both (hBz.trans hba) b17⟩
            · have h1 := HDE3.out hE
              have h2 := HDR3.out hE
              have d1 : (E0 == 0) = false := beq_eq_false_iff_ne.2 hE
              have d2 : (E0 != 0) = true := bne_iff_ne.2 hE
              subst h1 h2
              clear hE
              go_wp2
              go_ret
              exact ⟨rfl, hBz⟩
end Go.Proofs.Ytaefalmabphadab
