/- vernierlaw25: HouseApplies, walked. -/
import Derived.Test.YtdcebkhdnhdejaaHoLaw
namespace Go.Proofs.Ytdcebkhdnhdejaa
open Go.RowKit Go.Shelf
theorem apV_low {vs xs : List Nat} {tau : Nat} (hx : Low 18446744073709551616 xs) : Low 18446744073709551616 (apV vs tau xs) := rowV_low fun i _ => minusU_lt (by have := lim_lt hx (by decide : 0 < 18446744073709551616) i; omega) (timesU_lt _ _)
set_option maxRecDepth 100000 in
set_option maxHeartbeats 8000000 in
theorem houseApplies_calls {va vb : Option Addr} {m n capv capx tau : Nat} {vs xs : List Nat} {w : World} (hV : Arg w (.slice va m capv) vs) (hX : Arg w (.slice vb n capx) xs) (hv : Low 18446744073709551616 vs) (hx : Low 18446744073709551616 xs) (hvn : vs.length ≤ 17592186044415) (hxn : xs.length ≤ 17592186044415) (ht : (tau : Int) ≤ 18446744073709551615) :
    Calls Try.prog 12 #[.slice va m capv, .int .u64 (tau : Int), .slice vb n capx] w fun e W' => e = .returned (.bool true) ∧ Below w.heap.size w W' := by
  have hpos : 0 < w.heap.size := by obtain ⟨S, hS, _⟩ := hX; omega
  have hmv : m = vs.length := by
    obtain ⟨a', c', e⟩ := hV.slice
    simp only [Value.slice.injEq] at e
    omega
  have hnx : n = xs.length := by
    obtain ⟨a', c', e⟩ := hX.slice
    simp only [Value.slice.injEq] at e
    omega
  have hal := l25_alive w
  have HAP := Lib.hid (fun (W : World) (h : Below w.heap.size w W) => house_apply (hV.behind h) (hX.behind h) hv hx hvn hxn ht)
  have HD := Lib.hid (fun (W : World) (h : Below w.heap.size w W) => vec_dot (hV.behind h) (hX.behind h) hv hx (by omega) (by omega))
  have HC := Lib.hid (fun w => class6 (a := tau) (W := w) ht)
  obtain ⟨E, hE⟩ : ∃ z, z = apE vs tau xs := ⟨_, rfl⟩
  obtain ⟨Z, hZ⟩ : ∃ z, z = if E = 0 then apV vs tau xs else [] := ⟨_, rfl⟩
  rw [← hE, ← hZ] at HAP
  have HNO : Hid (E ≠ 0 → Z = []) := Lib.hid (fun h => by rw [hZ, if_neg h])
  rcases dotE_ways vs xs with ⟨h1, h2, h3, h4, h5⟩ | h1 | h1 | h1
  · rw [h1, h2] at HD
    by_cases hc : 2 ≤ cls tau
    · as_aux_lemma =>
        have hE2 : E = 12 := by rw [hE]; unfold apE; rw [if_neg (by simp [h1]), if_pos hc]
        have hZ2 := HNO.out (by rw [hE2]; decide)
        have d1 : decide ((1 : Int) < (cls tau : Int)) = true := decide_eq_true (by omega)
        generalize dotV vs xs vs.length = d at *
        generalize cls tau = ct at *
        subst hE2 hZ2
        clear hE hZ hc h1 h2 h3 h4 h5 hV hX hv hx hvn hxn hmv hnx HNO
        go_enter Try.func12, Try.ntmps12
        go_wp2_with fail
        refine hal.mono ?_
        rintro e w1 ⟨rfl, b1⟩
        clear hal
        go_wp2_with fail
        refine (HAP.out _ b1).mono ?_
        rintro e w2 ⟨a7, n7, c7, rfl, hN7, k7⟩
        obtain rfl : n7 = 0 := by
          obtain ⟨a8, c8, e8⟩ := hN7.arg.slice
          simp only [Value.slice.injEq, List.length_nil] at e8
          exact e8.2.1
        have B2 := below_both b1 k7
        clear hN7 b1 k7 HAP
        go_wp2_with fail
        refine (HD.out _ B2).mono ?_
        rintro e w3 ⟨rfl, b3⟩
        have HB := Lib.hid (below_both B2 b3)
        clear B2 b3 HD
        go_wp2_with fail
        refine (HC.out _).mono ?_
        rintro e w4 ⟨rfl, rfl⟩
        go_wp2
        go_ret
        exact ⟨rfl, HB.out⟩
    · as_aux_lemma =>
        have hE2 : E = tellV (apV vs tau xs) 0 := by rw [hE]; unfold apE; rw [if_neg (by simp [h1]), if_neg hc, if_neg (by simp [h1])]
        have d1 : decide ((1 : Int) < (cls tau : Int)) = false := decide_eq_false (by omega)
        have hlx := (chkV_ok.1 h5).1
        have hd1 : (dotV vs xs vs.length : Int) ≤ 18446744073709551615 := by have := dotV_lt vs xs vs.length; omega
        have hM := fun w => fmul_mul (a := tau) (b := dotV vs xs vs.length) (mode := 0) (w := w) ht hd1
        rw [show (rmul tau (dotV vs xs vs.length) 0).1 = timesU tau (dotV vs xs vs.length) from rfl] at hM
        have hw1 : (timesU tau (dotV vs xs vs.length) : Int) ≤ 18446744073709551615 := by have := timesU_lt tau (dotV vs xs vs.length); omega
        generalize (rmul tau (dotV vs xs vs.length) 0).2 = fl at *
        obtain ⟨QF, hQF⟩ : ∃ QF : Nat → List Nat, QF = fun k => rowV k fun i => minusU (lim xs i) (timesU (timesU tau (dotV vs xs vs.length)) (lim vs i)) := ⟨_, rfl⟩
        have HQS : Hid (∀ k, QF (k + 1) = QF k ++ [minusU (lim xs k) (timesU (timesU tau (dotV vs xs vs.length)) (lim vs k))]) := Lib.hid (fun k => by rw [hQF]; exact rowV_succ _ _)
        have HQL : Hid (∀ k, (QF k).length = k) := Lib.hid (fun k => by rw [hQF]; exact rowV_length _ _)
        have HQ0 : Hid (QF 0 = []) := Lib.hid (by rw [hQF]; rfl)
        have HQN : Hid (QF n = apV vs tau xs) := Lib.hid (by rw [hQF, hnx]; rfl)
        have HAL := Lib.hid (apV_low (vs := vs) (tau := tau) hx)
        have HAN : Hid ((apV vs tau xs).length = n) := Lib.hid (by unfold apV; rw [rowV_length]; exact hnx.symm)
        have HCH : Hid (chkV (apV vs tau xs) = if finB (apV vs tau xs) (apV vs tau xs).length then 0 else 12) := Lib.hid (by
          unfold chkV
          rw [if_neg (by unfold apV; rw [rowV_length]; omega)])
        have HEE : Hid (E = if finB (apV vs tau xs) (apV vs tau xs).length then 0 else 13) := Lib.hid (by rw [hE2, tellV_z])
        have HZZ := Lib.hid hZ
        obtain ⟨S, sa, sc, hS, es1, _, HXO⟩ := hX.opened
        simp only [Value.slice.injEq] at es1
        obtain ⟨rfl, -, rfl⟩ := es1
        obtain ⟨T, ta, tc, hT, et1, _, HVO⟩ := hV.opened
        simp only [Value.slice.injEq] at et1
        obtain ⟨rfl, -, rfl⟩ := et1
        rw [← hnx] at HXO
        rw [← hmv] at HVO
        have hnm : m = n := by omega
        have HXL := Lib.hid (fun k => lim_lt hx (by decide : 0 < 18446744073709551616) k)
        have HVL := Lib.hid (fun k => lim_lt hv (by decide : 0 < 18446744073709551616) k)
        have hn64 : (n : Int) ≤ 64 := by omega
        generalize timesU tau (dotV vs xs vs.length) = ww at *
        generalize dotV vs xs vs.length = d at *
        generalize cls tau = ct at *
        generalize apV vs tau xs = AV at *
        subst hnm
        clear hE2 hE hZ hc h1 h2 h3 h4 h5 hV hX hv hx hvn hxn hmv hnx HNO hQF hlx hd1
        have HM := Lib.hid hM
        clear hM
        go_enter Try.func12, Try.ntmps12
        go_wp2_with fail
        refine hal.mono ?_
        rintro e w1 ⟨rfl, b1⟩
        clear hal
        go_wp2_with fail
        refine (HAP.out _ b1).mono ?_
        rintro e w2 ⟨a7, n7, c7, rfl, hN7, k7⟩
        have B2 := below_both b1 k7
        have A7 := hN7.arg
        clear hN7 b1 k7 HAP
        go_wp2_with fail
        refine (HD.out _ B2).mono ?_
        rintro e w3 ⟨rfl, b3⟩
        have B3 := below_both B2 b3
        replace A7 := A7.behind b3
        clear B2 b3 HD
        go_wp2_with fail
        refine (HC.out _).mono ?_
        rintro e w4 ⟨rfl, rfl⟩
        clear HC
        go_wp2_with fail
        refine (HM.out _).mono ?_
        rintro e w5 ⟨rfl, b5⟩
        have B5 := below_both B3 b5
        replace A7 := A7.behind b5
        have HA7 := Lib.hid A7
        clear B3 b5 HM A7
        go_wp2_with fail
        go_loopw [13, 14] (fun q i wr => ∃ k : Nat, k ≤ m ∧ i = .int .i64 k ∧ OwnK .u64 32 w5.heap.size wr q (zn (QF k)) ∧ Below w5.heap.size w5 wr) (fun _ i _ => m - (intOf i).toNat)
        case atStart => exact ⟨0, Nat.zero_le _, rfl, by rw [HQ0.out]; exact OwnK.nil _ _ _ _, Below.refl _ _⟩
        case round =>
          obtain ⟨k, hk, rfl, hQ, hB⟩ := hrel
          by_cases hlt : k < m
          · have hBw := below_both B5 hB
            obtain ⟨ov, rfl, kv⟩ := HVO.out wr hBw k hlt
            have HKX : Hid (∀ W, Below w.heap.size w W → ∃ off, vb = some ⟨S, off, none⟩ ∧ W.cell? ⟨S, off + k, none⟩ = some (.int .u64 (lim xs k : Int))) := Lib.hid (fun W h => HXO.out W h k hlt)
            have HQ1 := Lib.hid (HQS.out k)
            have hql : (zn (QF k)).length + 1 ≤ 17592186044416 := by rw [zn_length, HQL.out]; omega
            have l1 := HXL.out k
            have l2 := HVL.out k
            have hM1 := fun w => fmul_mul (a := ww) (b := lim vs k) (mode := 0) (w := w) hw1 (by omega)
            rw [show (rmul ww (lim vs k) 0).1 = timesU ww (lim vs k) from rfl] at hM1
            have HM1 := Lib.hid hM1
            have HS1 := Lib.hid (fun w => l25_minus (a := lim xs k) (b := timesU ww (lim vs k)) (w := w) (by omega) (by have := timesU_lt ww (lim vs k); omega))
            clear hM1 l1 l2
            generalize (rmul ww (lim vs k) 0).2 = fl1 at *
            generalize minusU (lim xs k) (timesU ww (lim vs k)) = z at *
            generalize timesU ww (lim vs k) = p at *
            generalize lim vs k = y at *
            generalize lim xs k = x at *
            go_wp2_with fail
            refine (HM1.out _).mono ?_
            rintro e w6 ⟨rfl, b6⟩
            obtain ⟨ox, rfl, kx⟩ := HKX.out _ (below_both hBw b6)
            have hQ6 := hQ.below b6
            have hB6 := below_both hB b6
            clear b6 kv
            go_wp2_with fail
            refine (HS1.out _).mono ?_
            rintro e w7 ⟨rfl, b7⟩
            have hQ7 := hQ6.below b7
            have hB7 := below_both hB6 b7
            have hsz := hB7.size
            go_wp2_with (at_builtin; refine app_u64 rfl _ _ rfl rfl rfl (cell_new1 _ _ _) (hQ7.alloc _) hql (by rw [World.size_alloc]; omega) ?_; intro v' w8 hQ8 b8)
            have hbb := hB7.trans (((Below.refl w5.heap.size _).alloc hB7.size _).trans b8)
            have hqq := hQ8
            rw [← zn_snoc, ← HQ1.out] at hqq
            exact ⟨⟨k + 1, by omega, by simp, hqq, hbb⟩, by simp [intOf]; omega⟩
          · obtain rfl : k = m := by omega
            clear hlt
            rw [HQN.out] at hQ
            have hBw := below_both B5 hB
            have hN := new_zn.2 (hQ.new (Nat.lt_of_lt_of_le hpos hBw.size))
            have aQ := hN.arg
            obtain ⟨qa, qc, eq⟩ := aQ.slice
            rw [HAN.out] at eq
            subst eq
            have HCK := vec_check aQ HAL.out (by rw [HAN.out]; omega)
            rw [HCH.out] at HCK
            have HQA := Lib.hid aQ
            have HA8 := Lib.hid (HA7.out.behind hB)
            have HBB := Lib.hid hBw
            clear hN aQ hQ hBw hB
            cases hf : finB AV AV.length
            · have e1 : E = 13 := by rw [HEE.out, hf]; rfl
              have e2 : Z = [] := by rw [HZZ.out, if_neg (by rw [e1]; decide)]
              rw [hf] at HCK
              subst e1 e2
              obtain rfl : n7 = 0 := by
                obtain ⟨a8, c8, e8⟩ := HA8.out.slice
                simp only [Value.slice.injEq, List.length_nil] at e8
                exact e8.2.1
              clear hf
              go_wp2_with fail
              refine HCK.mono ?_
              rintro e w9 ⟨rfl, b9⟩
              have HB9 := Lib.hid (below_both HBB.out b9)
              clear HCK b9
              go_wp2
              go_ret
              exact ⟨rfl, HB9.out⟩
            · have e1 : E = 0 := by rw [HEE.out, hf]; rfl
              have e2 : Z = AV := by rw [HZZ.out, if_pos e1]
              rw [hf] at HCK
              subst e1 e2
              clear hf
              go_wp2_with fail
              refine HCK.mono ?_
              rintro e w9 ⟨rfl, b9⟩
              have hsm := same_arg (HA8.out.behind b9) (HQA.out.behind b9) (by rw [HAN.out]; omega)
              have B9 := below_both HBB.out b9
              clear HCK b9
              go_wp2_with fail
              refine hsm.mono ?_
              rintro e w10 ⟨rfl, b10⟩
              have HB9 := Lib.hid (below_both B9 b10)
              go_wp2
              go_ret
              exact ⟨rfl, HB9.out⟩
  · as_aux_lemma =>
      rw [h1] at HD
      have hE2 : E = 11 := by rw [hE]; unfold apE; rw [if_pos (by simp [h1]), h1]
      have hZ2 := HNO.out (by rw [hE2]; decide)
      generalize dotR vs xs = d at *
      subst hE2 hZ2
      clear hE hZ h1 hV hX hv hx hvn hxn hmv hnx HNO
      go_enter Try.func12, Try.ntmps12
      go_wp2_with fail
      refine hal.mono ?_
      rintro e w1 ⟨rfl, b1⟩
      clear hal
      go_wp2_with fail
      refine (HAP.out _ b1).mono ?_
      rintro e w2 ⟨a7, n7, c7, rfl, hN7, k7⟩
      obtain rfl : n7 = 0 := by
        obtain ⟨a8, c8, e8⟩ := hN7.arg.slice
        simp only [Value.slice.injEq, List.length_nil] at e8
        exact e8.2.1
      have B2 := below_both b1 k7
      clear hN7 b1 k7 HAP
      go_wp2_with fail
      refine (HD.out _ B2).mono ?_
      rintro e w3 ⟨rfl, b3⟩
      have HB := Lib.hid (below_both B2 b3)
      clear B2 b3 HD
      go_wp2
      go_ret
      exact ⟨rfl, HB.out⟩
  · as_aux_lemma =>
      rw [h1] at HD
      have hE2 : E = 12 := by rw [hE]; unfold apE; rw [if_pos (by simp [h1]), h1]
      have hZ2 := HNO.out (by rw [hE2]; decide)
      generalize dotR vs xs = d at *
      subst hE2 hZ2
      clear hE hZ h1 hV hX hv hx hvn hxn hmv hnx HNO
      go_enter Try.func12, Try.ntmps12
      go_wp2_with fail
      refine hal.mono ?_
      rintro e w1 ⟨rfl, b1⟩
      clear hal
      go_wp2_with fail
      refine (HAP.out _ b1).mono ?_
      rintro e w2 ⟨a7, n7, c7, rfl, hN7, k7⟩
      obtain rfl : n7 = 0 := by
        obtain ⟨a8, c8, e8⟩ := hN7.arg.slice
        simp only [Value.slice.injEq, List.length_nil] at e8
        exact e8.2.1
      have B2 := below_both b1 k7
      clear hN7 b1 k7 HAP
      go_wp2_with fail
      refine (HD.out _ B2).mono ?_
      rintro e w3 ⟨rfl, b3⟩
      have HB := Lib.hid (below_both B2 b3)
      clear B2 b3 HD
      go_wp2
      go_ret
      exact ⟨rfl, HB.out⟩
  · rw [h1] at HD
    have hE2 : E = if 2 ≤ cls tau then 12 else 13 := by rw [hE]; unfold apE; rw [if_neg (by simp [h1]), if_pos (show dotE vs xs ≠ 0 by rw [h1]; decide)]
    have hZ2 := HNO.out (by rw [hE2]; split <;> decide)
    generalize dotR vs xs = d at *
    by_cases hc : 2 ≤ cls tau
    · rw [if_pos hc] at hE2
      have d1 : decide ((1 : Int) < (cls tau : Int)) = true := decide_eq_true (by omega)
      generalize cls tau = ct at *
      subst hE2 hZ2
      clear hE hZ hc h1 hV hX hv hx hvn hxn hmv hnx HNO
      go_enter Try.func12, Try.ntmps12
      go_wp2_with fail
      refine hal.mono ?_
      rintro e w1 ⟨rfl, b1⟩
      clear hal
      go_wp2_with fail
      refine (HAP.out _ b1).mono ?_
      rintro e w2 ⟨a7, n7, c7, rfl, hN7, k7⟩
      obtain rfl : n7 = 0 := by
        obtain ⟨a8, c8, e8⟩ := hN7.arg.slice
        simp only [Value.slice.injEq, List.length_nil] at e8
        exact e8.2.1
      have B2 := below_both b1 k7
      clear hN7 b1 k7 HAP
      go_wp2_with fail
      refine (HD.out _ B2).mono ?_
      rintro e w3 ⟨rfl, b3⟩
      have HB := Lib.hid (below_both B2 b3)
      clear B2 b3 HD
      go_wp2_with fail
      refine (HC.out _).mono ?_
      rintro e w4 ⟨rfl, rfl⟩
      go_wp2
      go_ret
      exact ⟨rfl, HB.out⟩
    · rw [if_neg hc] at hE2
      have d1 : decide ((1 : Int) < (cls tau : Int)) = false := decide_eq_false (by omega)
      generalize cls tau = ct at *
      subst hE2 hZ2
      clear hE hZ hc h1 hV hX hv hx hvn hxn hmv hnx HNO
      go_enter Try.func12, Try.ntmps12
      go_wp2_with fail
      refine hal.mono ?_
      rintro e w1 ⟨rfl, b1⟩
      clear hal
      go_wp2_with fail
      refine (HAP.out _ b1).mono ?_
      rintro e w2 ⟨a7, n7, c7, rfl, hN7, k7⟩
      obtain rfl : n7 = 0 := by
        obtain ⟨a8, c8, e8⟩ := hN7.arg.slice
        simp only [Value.slice.injEq, List.length_nil] at e8
        exact e8.2.1
      have B2 := below_both b1 k7
      clear hN7 b1 k7 HAP
      go_wp2_with fail
      refine (HD.out _ B2).mono ?_
      rintro e w3 ⟨rfl, b3⟩
      have HB := Lib.hid (below_both B2 b3)
      clear B2 b3 HD
      go_wp2_with fail
      refine (HC.out _).mono ?_
      rintro e w4 ⟨rfl, rfl⟩
      go_wp2
      go_ret
      exact ⟨rfl, HB.out⟩
end Go.Proofs.Ytdcebkhdnhdejaa
