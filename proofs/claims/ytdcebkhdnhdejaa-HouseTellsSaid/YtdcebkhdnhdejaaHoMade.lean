/- vernierlaw25: made; HouseTells, walked. -/
import Derived.Test.YtdcebkhdnhdejaaHoLaw
import Derived.Deep.CutRange
namespace Go.Proofs.Ytdcebkhdnhdejaa
open Go.RowKit Go.Shelf
theorem OwnK.lit1 (t : TypeId) (W : World) (x : Nat) : OwnK .u64 t W.heap.size (W.alloc (.cells #[.int .u64 (x : Int)] t)) (.slice (some ⟨W.heap.size, 0, none⟩) 1 1) (zn [x]) := by
  have h := World.ownsRow_lit (base := W.heap.size) (e := t) (size := 1) W #[.int .u64 (x : Int)] 1 (Nat.le_refl _) (by decide) (by simp)
  exact h
theorem shl_zero {x : Nat} (hx : x < 18446744073709551616) : ∃ t : Nat, IntKind.u64.wrap ((x : Int) * 2) = (t : Int) ∧ ((t : Int) == 0) = decide (cls x = 0) := by
  refine ⟨x * 2 % 18446744073709551616, ?_, ?_⟩
  · show ((x : Int) * 2) % 18446744073709551616 = _
    omega
  · have h := cls_mag x
    unfold mag at h
    by_cases hm : x % 9223372036854775808 = 0
    · rw [hm, if_neg (by decide), if_neg (by decide), if_pos rfl] at h
      rw [decide_eq_true h]
      have : x * 2 % 18446744073709551616 = 0 := by omega
      rw [this]; rfl
    · have hc : cls x ≠ 0 := by
        rw [h]
        split
        · decide
        · split
          · decide
          · first | decide | (rw [if_neg hm]; decide)
      rw [decide_eq_false hc]
      exact beq_eq_false_iff_ne.2 (by omega)
/-- the error of what made tells, by the numbers that it goes by -/
theorem mirE_iff (xs : List Nat) (b : Nat) : mirE xs b = if (decide (cls (mirT xs b) ≤ 1) && decide (cls (mirG xs b) ≤ 1) && finB (mirV xs b) xs.length) = true then 0 else 13 := by
  unfold mirE
  have hl : (mirV xs b).length = xs.length := rowV_length _ _
  rw [hl]
  by_cases h1 : cls (mirT xs b) ≤ 1 <;> by_cases h2 : cls (mirG xs b) ≤ 1 <;> cases finB (mirV xs b) xs.length <;> simp [h1, h2]
set_option maxRecDepth 100000 in
set_option maxHeartbeats 16000000 in
theorem l25_made {va : Option Addr} {m cap : Nat} {xs : List Nat} {w : World} (hA : Arg w (.slice va m cap) xs) (hx : Low 18446744073709551616 xs) (hc1 : chkV xs = 0) (hl1 : 0 < xs.length) :
    Calls Try.prog 50 #[.slice va m cap] w fun e W' => ∃ a n c, e = .returned (.tuple #[.slice a n c, .int .u64 (hoRT xs : Int), .int .u64 (hoRB xs : Int), .int .i64 (hoE xs)]) ∧ New w.heap.size W' (.slice a n c) (hoRV xs) ∧ Below w.heap.size w W' := by
  have hpos : 0 < w.heap.size := by obtain ⟨S, hS, _⟩ := hA; omega
  have hmx : m = xs.length := by
    obtain ⟨a', c', e⟩ := hA.slice
    simp only [Value.slice.injEq] at e
    omega
  have hm64 : xs.length ≤ 64 := (chkV_ok.1 hc1).1
  have hfx : ∀ j, j < xs.length → cls (lim xs j) ≤ 1 := finB_iff.1 (chkV_ok.1 hc1).2
  have HD := Lib.hid (fun (W : World) (h : Below w.heap.size w W) => vec_dot (hA.behind h) (hA.behind h) hx hx (by omega) (by omega))
  have HW := Lib.hid (ho_ways xs)
  obtain ⟨E, hE⟩ : ∃ z, z = hoE xs := ⟨_, rfl⟩
  obtain ⟨RT, hRT⟩ : ∃ z, z = hoRT xs := ⟨_, rfl⟩
  obtain ⟨RB, hRB⟩ : ∃ z, z = hoRB xs := ⟨_, rfl⟩
  obtain ⟨RV, hRV⟩ : ∃ z, z = hoRV xs := ⟨_, rfl⟩
  rw [← hE, ← hRT, ← hRB, ← hRV] at HW ⊢
  clear hE hRT hRB hRV
  have HXL := Lib.hid (fun k => lim_lt hx (by decide : 0 < 18446744073709551616) k)
  obtain ⟨UF, hUF⟩ : ∃ UF : Nat → List Nat, UF = fun k => rowV k fun i => if i = 0 then 4607182418800017408 else 0 := ⟨_, rfl⟩
  have HU1 : Hid (UF 1 = [4607182418800017408]) := Lib.hid (by rw [hUF]; rfl)
  have HUS : Hid (∀ k, 1 ≤ k → zn (UF (k + 1)) = zn (UF k) ++ [0]) := Lib.hid (fun k hk => by
    rw [hUF]; dsimp only
    rw [rowV_succ, if_neg (by omega), zn_snoc]; rfl)
  have HUL : Hid (∀ k, (UF k).length = k) := Lib.hid (fun k => by rw [hUF]; exact rowV_length _ _)
  have HUM : Hid (UF m = hoU xs) := Lib.hid (by rw [hUF, hmx]; rfl)
  have HSS : Hid (∀ k, 1 ≤ k → stillB xs k = (stillB xs (k - 1) && decide (cls (lim xs k) = 0))) := Lib.hid (fun k hk => by
    obtain ⟨j, rfl⟩ : ∃ j, k = j + 1 := ⟨k - 1, by omega⟩
    rfl)
  have HSM : Hid (xs.length - 1 = m - 1) := Lib.hid (by omega)
  have HFX := Lib.hid hfx
  have HMX := Lib.hid hmx
  have HAA := Lib.hid hA
  have HXX := Lib.hid hx
  have HC1 := Lib.hid hc1
  obtain ⟨S, sa, scap, hS, es1, _, HX⟩ := hA.opened
  simp only [Value.slice.injEq] at es1
  obtain ⟨rfl, -, rfl⟩ := es1
  rw [← hmx] at HX
  obtain ⟨off, rfl, -⟩ := HX.out w (Below.refl _ _) 0 (by omega)
  have HXC : Hid (∀ W, Below w.heap.size w W → ∀ k, k < m → W.cell? ⟨S, off + k, none⟩ = some (.int .u64 (lim xs k : Int))) := Lib.hid (fun W h k hk => by
    obtain ⟨o2, e2, k5⟩ := HX.out W h k hk
    simp only [Option.some.injEq, Addr.mk.injEq, true_and, and_true] at e2
    subst e2
    exact k5)
  have hm1 : 1 ≤ m := by omega
  have hm64' : (m : Int) ≤ 64 := by omega
  have hO := OwnK.lit1 32 w 4607182418800017408
  rw [← HU1.out] at hO
  have hB0 := (Below.refl w.heap.size w).alloc (Nat.le_refl _) (.cells #[.int .u64 4607182418800017408] 32)
  clear hUF hA hx hc1 hl1 hfx hmx hm64 HX
  go_enter Try.func50, Try.ntmps50
  go_wp2_with fail
  generalize w.alloc (.cells #[.int .u64 4607182418800017408] 32) = W0 at *
  go_loopw [6, 7, 8] (fun v st i wr => ∃ k : Nat, ∃ sb : Bool, 1 ≤ k ∧ k ≤ m ∧ i = .int .i64 k ∧ st = .bool sb ∧ Hid (sb = stillB xs (k - 1)) ∧ OwnK .u64 32 w.heap.size wr v (zn (UF k)) ∧ Below w.heap.size w wr) (fun _ _ i _ => m - (intOf i).toNat)
  case atStart => exact ⟨1, true, Nat.le_refl _, hm1, rfl, rfl, Lib.hid rfl, hO, hB0⟩
  case round =>
    obtain ⟨k, sb, hk1, hk, rfl, rfl, HSB, hQ, hB⟩ := hrel
    by_cases hlt : k < m
    · have kx := HXC.out wr hB k hlt
      have HS1 := Lib.hid (HSS.out k hk1)
      have HQ1 := Lib.hid (HUS.out k hk1)
      have hql : (zn (UF k)).length + 1 ≤ 17592186044416 := by rw [zn_length, HUL.out]; omega
      obtain ⟨t, ht1, ht2⟩ := shl_zero (HXL.out k)
      have hsz := hB.size
      have hkm : (k : Int) < (m : Int) := by omega
      cases sb
      · have HN : Hid (false = stillB xs (k + 1 - 1)) := Lib.hid (by rw [Nat.add_sub_cancel, HS1.out, ← HSB.out]; rfl)
        clear ht1 ht2
        go_wp2_with (at_builtin; refine app_u64 rfl _ _ rfl rfl rfl (cell_new1 _ _ _) (hQ.alloc _) hql (by rw [World.size_alloc]; omega) ?_; intro v' w8 hQ8 b8)
        have hbb := hB.trans (((Below.refl w.heap.size _).alloc hB.size _).trans b8)
        have hqq := hQ8
        rw [← HQ1.out] at hqq
        exact ⟨⟨k + 1, false, by omega, by omega, by simp, rfl, HN, hqq, hbb⟩, by simp [intOf]; omega⟩
      · by_cases hcl : cls (lim xs k) = 0
        · have HN : Hid (true = stillB xs (k + 1 - 1)) := Lib.hid (by rw [Nat.add_sub_cancel, HS1.out, ← HSB.out, decide_eq_true hcl]; rfl)
          rw [decide_eq_true hcl] at ht2
          clear hcl
          generalize lim xs k = x at *
          go_wp2_with (at_builtin; refine app_u64 rfl _ _ rfl rfl rfl (cell_new1 _ _ _) (hQ.alloc _) hql (by rw [World.size_alloc]; omega) ?_; intro v' w8 hQ8 b8)
          have hbb := hB.trans (((Below.refl w.heap.size _).alloc hB.size _).trans b8)
          have hqq := hQ8
          rw [← HQ1.out] at hqq
          exact ⟨⟨k + 1, true, by omega, by omega, by simp, rfl, HN, hqq, hbb⟩, by simp [intOf]; omega⟩
        · have HN : Hid (false = stillB xs (k + 1 - 1)) := Lib.hid (by rw [Nat.add_sub_cancel, HS1.out, ← HSB.out, decide_eq_false hcl]; rfl)
          rw [decide_eq_false hcl] at ht2
          clear hcl
          generalize lim xs k = x at *
          go_wp2_with (at_builtin; refine app_u64 rfl _ _ rfl rfl rfl (cell_new1 _ _ _) (hQ.alloc _) hql (by rw [World.size_alloc]; omega) ?_; intro v' w8 hQ8 b8)
          have hbb := hB.trans (((Below.refl w.heap.size _).alloc hB.size _).trans b8)
          have hqq := hQ8
          rw [← HQ1.out] at hqq
          exact ⟨⟨k + 1, false, by omega, by omega, by simp, rfl, HN, hqq, hbb⟩, by simp [intOf]; omega⟩
    · obtain rfl : k = m := by omega
      clear hlt
      rw [HUM.out] at hQ
      obtain ⟨qa, qc, eq⟩ := hQ.len
      have HLU : Hid ((zn (hoU xs)).length = k) := Lib.hid (by rw [zn_length, ← HUM.out, HUL.out])
      rw [HLU.out] at eq
      subst eq
      have hpw := Nat.lt_of_lt_of_le hpos hB.size
      obtain ⟨g, gc, hge, hgb, hgl⟩ := hQ.form (by rw [HLU.out]; omega)
      rw [HLU.out] at hge
      simp only [Value.slice.injEq, true_and] at hge
      obtain ⟨rfl, rfl⟩ := hge
      have hk0 : 0 < k := by omega
      have HU1' : Hid (zn (hoU xs) = zn (hoU xs)) := Lib.hid rfl
      cases sb
      · have hst : stillB xs (xs.length - 1) = false := by rw [HSM.out]; exact HSB.out.symm
        rcases HW.out with ⟨h1, -⟩ | ⟨h1, h2, -⟩ | ⟨h1, h2, h3, -⟩ | ⟨h1, h2, h3, h4, e1, e2, e3, e4⟩ | ⟨h1, h2, h3, h4, h5, h6, e1, e2, e3, e4⟩ | ⟨h1, h2, h3, h4, h5, h6, e1, e2, e3, e4⟩
        · exact absurd HC1.out h1
        · have := HMX.out; omega
        · exact absurd (hst.symm.trans h3) (by decide)
        · as_aux_lemma =>
            have HT := Lib.hid (And.intro e1 (And.intro e2 (And.intro e3 e4)))
            rw [h4] at HD
            generalize dotR xs xs = dr at *
            clear h1 h2 h3 h4 e1 e2 e3 e4 HW hst hQ
            go_wp2_with fail
            refine (HD.out _ hB).mono ?_
            rintro e w4 ⟨rfl, b4⟩
            have HB := Lib.hid (below_both hB b4)
            clear HD b4 hB
            go_wp2
            (try simp only [Exit.inBlock, Exit.then])
            refine bodyPost_ret (results_tmp4 rfl _ _ _) rfl ?_
            exact ⟨none, 0, 0, by rw [HT.out.1, HT.out.2.1, HT.out.2.2.1]; rfl, by rw [HT.out.2.2.2]; exact new_nil (b := 0) (Nat.lt_of_lt_of_le hpos HB.out.size), HB.out⟩
        · as_aux_lemma =>
            have HT := Lib.hid (And.intro e1 (And.intro e2 (And.intro e3 e4)))
            rw [h4, h5] at HD
            have hd1 : (dotV xs xs xs.length : Int) ≤ 18446744073709551615 := by have := dotV_lt xs xs xs.length; omega
            have hq1 := fun w => fsqrt_sqrt (a := dotV xs xs xs.length) (mode := 0) (w := w) hd1
            rw [show (rsqrt (dotV xs xs xs.length) 0).1 = rootU (dotV xs xs xs.length) from rfl, h6] at hq1
            generalize (rsqrt (dotV xs xs xs.length) 0).2 = fl at *
            generalize dotV xs xs xs.length = dr at *
            have HQ := Lib.hid hq1
            clear h1 h2 h3 h4 h5 h6 e1 e2 e3 e4 HW hst hQ hq1 hd1
            go_wp2_with fail
            refine (HD.out _ hB).mono ?_
            rintro e w4 ⟨rfl, b4⟩
            have B4 := below_both hB b4
            clear HD b4 hB
            go_wp2_with fail
            refine (HQ.out _).mono ?_
            rintro e w5 ⟨rfl, b5⟩
            have HB := Lib.hid (below_both B4 b5)
            clear HQ b5 B4
            go_wp2
            (try simp only [Exit.inBlock, Exit.then])
            refine bodyPost_ret (results_tmp4 rfl _ _ _) rfl ?_
            exact ⟨none, 0, 0, by rw [HT.out.1, HT.out.2.1, HT.out.2.2.1]; rfl, by rw [HT.out.2.2.2]; exact new_nil (b := 0) (Nat.lt_of_lt_of_le hpos HB.out.size), HB.out⟩
        · as_aux_lemma =>
            have HT := Lib.hid (And.intro e1 (And.intro e2 (And.intro e3 e4)))
            rw [h4, h5] at HD
            have hd1 : (dotV xs xs xs.length : Int) ≤ 18446744073709551615 := by have := dotV_lt xs xs xs.length; omega
            have hP : Pos (rootU (dotV xs xs xs.length)) := root_pos (dot_self (finB_iff.1 (chkV_ok.1 h1).2))
            have hq1 := fun w => fsqrt_sqrt (a := dotV xs xs xs.length) (mode := 0) (w := w) hd1
            rw [show (rsqrt (dotV xs xs xs.length) 0).1 = rootU (dotV xs xs xs.length) from rfl] at hq1
            have HHB : Hid (hoB xs = rootU (dotV xs xs xs.length) + if lim xs 0 < 9223372036854775808 then 9223372036854775808 else 0) := Lib.hid rfl
            have hbb : hoB xs ≤ 18446744073709551615 := by unfold hoB; unfold Pos at hP; split <;> omega
            have hx0 := HXL.out 0
            have hS1 := fun w => l25_minus (a := hoB xs) (b := lim xs 0) (w := w) (by omega) (by omega)
            have hm1' : (minusU (hoB xs) (lim xs 0) : Int) ≤ 18446744073709551615 := by have := minusU_lt (a := hoB xs) (b := lim xs 0) (by omega) (by omega); omega
            have hD1 := fun w => l25_by (a := minusU (hoB xs) (lim xs 0)) (b := hoB xs) (w := w) hm1' (by omega)
            rw [show quotU (minusU (hoB xs) (lim xs 0)) (hoB xs) = mirT xs (hoB xs) from rfl] at hD1
            have hS2 := fun w => l25_minus (a := lim xs 0) (b := hoB xs) (w := w) (by omega) (by omega)
            rw [show minusU (lim xs 0) (hoB xs) = mirG xs (hoB xs) from rfl] at hS2
            have hT1 : (mirT xs (hoB xs) : Int) ≤ 18446744073709551615 := by have := quotU_lt (minusU (hoB xs) (lim xs 0)) (hoB xs); unfold mirT; omega
            have hG1 : (mirG xs (hoB xs) : Int) ≤ 18446744073709551615 := by have := minusU_lt (a := lim xs 0) (b := hoB xs) (by omega) (by omega); unfold mirG; omega
            have HC1' := Lib.hid (fun w => class6 (a := mirT xs (hoB xs)) (W := w) hT1)
            have HC2' := Lib.hid (fun w => class6 (a := mirG xs (hoB xs)) (W := w) hG1)
            have HBY := Lib.hid (fun (j : Nat) (w : World) => l25_by (a := lim xs j) (b := mirG xs (hoB xs)) (w := w) (by have := HXL.out j; omega) hG1)
            have HCQ := Lib.hid (fun (j : Nat) (w : World) => class6 (a := quotU (lim xs j) (mirG xs (hoB xs))) (W := w) (by have := quotU_lt (lim xs j) (mirG xs (hoB xs)); omega))
            have HEI := Lib.hid (mirE_iff xs (hoB xs))
            have HVL : Hid (∀ j, 1 ≤ j → j < xs.length → lim (mirV xs (hoB xs)) j = quotU (lim xs j) (mirG xs (hoB xs))) := Lib.hid (fun j h1 h2 => by
              unfold mirV
              rw [rowV_lim _ h2, if_neg (by omega)])
            have HV0 : Hid (finB (mirV xs (hoB xs)) 1 = true) := Lib.hid (by
              show (true && decide (cls (lim (mirV xs (hoB xs)) 0) ≤ 1)) = true
              rw [Bool.true_and]
              unfold mirV
              rw [rowV_lim _ h2, if_pos rfl]
              decide)
            have HFS : Hid (∀ j, 1 ≤ j → j < xs.length → finB (mirV xs (hoB xs)) (j + 1) = (finB (mirV xs (hoB xs)) j && decide (cls (quotU (lim xs j) (mirG xs (hoB xs))) ≤ 1))) := Lib.hid (fun j h1 h2 => by
              show (finB (mirV xs (hoB xs)) j && decide (cls (lim (mirV xs (hoB xs)) j) ≤ 1)) = _
              rw [HVL.out j h1 h2])
            obtain ⟨LF, hLF⟩ : ∃ LF : Nat → List Nat, LF = fun j => upd (fun i => if i = 0 then 4607182418800017408 else quotU (lim xs i) (mirG xs (hoB xs))) (hoU xs) j := ⟨_, rfl⟩
            have hul : (hoU xs).length = xs.length := rowV_length _ _
            have HL1 : Hid (LF 1 = hoU xs) := Lib.hid (by
              rw [hLF]
              refine ext_lim (by rw [upd_length]) fun i hi => ?_
              rw [upd_length] at hi
              rw [upd_at hi]
              by_cases h0 : i = 0
              · rw [if_pos (by omega), if_pos h0]
                unfold hoU
                rw [rowV_lim _ (by omega), if_pos h0]
              · rw [if_neg (by omega)])
            have HLS : Hid (∀ j, 1 ≤ j → zn (LF (j + 1)) = (zn (LF j)).set j (quotU (lim xs j) (mirG xs (hoB xs)) : Int)) := Lib.hid (fun j hj => by
              rw [hLF]; dsimp only
              rw [upd_succ, zn_set, if_neg (by omega)])
            have HLL : Hid (∀ j, (zn (LF j)).length = xs.length) := Lib.hid (fun j => by rw [hLF]; dsimp only; rw [zn_length, upd_length, hul])
            have HLM : Hid (LF xs.length = mirV xs (hoB xs)) := Lib.hid (by
              rw [hLF]; dsimp only
              rw [← hul, upd_all, hul]; rfl)
            obtain ⟨ok, hok⟩ : ∃ ok, ok = (decide (cls (mirT xs (hoB xs)) ≤ 1) && decide (cls (mirG xs (hoB xs)) ≤ 1)) := ⟨_, rfl⟩
            rw [← hok] at HEI
            have HOK := Lib.hid hok
            have HPP := Lib.hid hP
            rw [HMX.out.symm] at HLL HLM HFS HVL HEI
            rw [← HL1.out] at hQ
            have HRR : Hid (E = mirE xs (hoB xs) ∧ (E = 0 → RT = mirT xs (hoB xs) ∧ RB = hoB xs ∧ RV = mirV xs (hoB xs)) ∧ (E = 13 → RT = 0 ∧ RB = 0 ∧ RV = [])) := Lib.hid ⟨e1, fun h => by
              have hm : mirE xs (hoB xs) = 0 := e1.symm.trans h
              rw [e2, e3, e4, if_pos hm, if_pos hm, if_pos hm]
              exact ⟨rfl, rfl, rfl⟩, fun h => by
              have hm : ¬ mirE xs (hoB xs) = 0 := by rw [← e1, h]; decide
              rw [e2, e3, e4, if_neg hm, if_neg hm, if_neg hm]
              exact ⟨rfl, rfl, rfl⟩⟩
            clear h1 h2 h3 h4 e1 e2 e3 e4 HW hst hLF hok hul HT hP
            have hq0 : ((rootU (dotV xs xs xs.length) : Int) == 0) = false := beq_eq_false_iff_ne.2 (by omega)
            clear h5 h6
            generalize mirE xs (hoB xs) = ME at *
            generalize (rsqrt (dotV xs xs xs.length) 0).2 = fl at *
            generalize rootU (dotV xs xs xs.length) = rt at *
            generalize dotV xs xs xs.length = dr at *
            generalize minusU (hoB xs) (lim xs 0) = dd at *
            generalize mirV xs (hoB xs) = MV at *
            generalize mirT xs (hoB xs) = MT at *
            generalize mirG xs (hoB xs) = MG at *
            generalize hoB xs = bb at *
            have HQ := Lib.hid hq1
            have HSA := Lib.hid hS1
            have HDA := Lib.hid hD1
            have HSB2 := Lib.hid hS2
            have hr1 : (rt : Int) ≤ 9218868437227405312 := by have := HPP.out; unfold Pos at this; omega
            clear hq1 hS1 hD1 hS2 hd1 hm1' hT1 hG1 hbb hx0
            have kx := HXC.out wr hB 0 hk0
            go_wp2_with fail
            refine (HD.out _ hB).mono ?_
            rintro e w4 ⟨rfl, b4⟩
            have B4 := below_both hB b4
            replace hQ := hQ.below b4
            clear HD b4 hB kx
            go_wp2_with fail
            refine (HQ.out _).mono ?_
            rintro e w5 ⟨rfl, b5⟩
            have B5 := below_both B4 b5
            replace hQ := hQ.below b5
            clear HQ b5 B4
            have kx := HXC.out w5 B5 0 hk0
            rw [Nat.add_zero] at kx
            have HKX0 : Hid (∀ W, Below w.heap.size w W → W.cell? ⟨S, off, none⟩ = some (.int .u64 (lim xs 0 : Int))) := Lib.hid (fun W h => by have := HXC.out W h 0 hk0; rwa [Nat.add_zero] at this)
            generalize lim xs 0 = x0 at *
            go_upto_if 60 with (fail)
            go_cut [11] from 57 to 62 (fun u wx => u = .int .u64 (bb : Int) ∧ w5 = wx)
            case first =>
              by_cases hs : x0 < 9223372036854775808
              · have q : decide ((x0 : Int) < 9223372036854775808) = true := decide_eq_true (by omega)
                have hb : bb = rt + 9223372036854775808 := by rw [HHB.out, if_pos hs]
                have q2 : IntKind.u64.wrap ((rt : Int) + 9223372036854775808) = (bb : Int) := by
                  show ((rt : Int) + 9223372036854775808) % 18446744073709551616 = _
                  omega
                clear hs hb
                rw [q]
                clear q
                go_wp2_with fail
                go_meet
                exact ⟨rfl, rfl⟩
              · have q : decide ((x0 : Int) < 9223372036854775808) = false := decide_eq_false (by omega)
                have hb : bb = rt := by rw [HHB.out, if_neg hs]; rfl
                subst hb
                clear hs
                rw [q]
                clear q
                go_wp2_with fail
                go_meet
                exact ⟨rfl, rfl⟩
            obtain ⟨rfl, rfl⟩ := hcut
            have Br : Below w.heap.size w w5 := B5
            have Bs : Below w5.heap.size w5 w5 := Below.refl _ _
            go_upto_region 18 with (fail)
            go_cut [13, 14] from 63 to 74 (fun u v wx => u = .int .u64 (MT : Int) ∧ v = .int .u64 (MG : Int) ∧ Below w5.heap.size w5 wx)
            case first =>
              go_region_held3 (fun W => W.cell? ⟨S, off, none⟩ = some (.int .u64 (x0 : Int)))
                (first | with_reducible exact HKX0.out _ Br | with_reducible exact HKX0.out _ Br.drew | go_keep)
                (first
                  | (go_at_call 53; (with_reducible refine (HSA.out _).mono ?_); rintro e v4 ⟨rfl, bz⟩; (first | replace Br := below_both Br bz | replace Br := below_both Br.drew bz); (first | replace Bs := below_both Bs bz | replace Bs := below_both Bs.drew bz); clear bz)
                  | (go_at_call 53; (with_reducible refine (HSB2.out _).mono ?_); rintro e v5 ⟨rfl, bz⟩; (first | replace Br := below_both Br bz | replace Br := below_both Br.drew bz); (first | replace Bs := below_both Bs bz | replace Bs := below_both Bs.drew bz); clear bz)
                  | (go_at_call 100; (with_reducible refine (HDA.out _).mono ?_); rintro e v6 ⟨rfl, bz⟩; (first | replace Br := below_both Br bz | replace Br := below_both Br.drew bz); (first | replace Bs := below_both Bs bz | replace Bs := below_both Bs.drew bz); clear bz))
              all_goals
                go_wp2_with fail
                go_meet
                exact ⟨rfl, rfl, Bs⟩
            obtain ⟨rfl, rfl, b6⟩ := hcut
            obtain ⟨w6, rfl⟩ : ∃ wo, wo = wc := ⟨_, rfl⟩
            have B6 := below_both B5 b6
            replace hQ := hQ.below b6
            clear Br Bs b6 B5 kx
            go_upto_region 19 with (fail)
            go_cut [15] from 75 to 82 (fun u wx => u = .bool (!ok) ∧ w6 = wx)
            case first =>
              have hokk := HOK.out
              by_cases hT : cls MT ≤ 1
              · have q : decide ((1 : Int) < (cls MT : Int)) = false := decide_eq_false (by omega)
                by_cases hG : cls MG ≤ 1
                · have q2 : decide ((1 : Int) < (cls MG : Int)) = false := decide_eq_false (by omega)
                  obtain rfl : ok = true := by rw [hokk, decide_eq_true hT, decide_eq_true hG]; rfl
                  generalize cls MT = ct at *
                  generalize cls MG = cg at *
                  clear hokk hT hG HOK
                  go_wp2_with fail
                  refine (HC1'.out _).mono ?_
                  rintro e w7 ⟨rfl, rfl⟩
                  go_wp2_with fail
                  refine (HC2'.out _).mono ?_
                  rintro e w7 ⟨rfl, rfl⟩
                  go_wp2_with fail
                  go_meet
                  exact ⟨rfl, rfl⟩
                · have q2 : decide ((1 : Int) < (cls MG : Int)) = true := decide_eq_true (by omega)
                  obtain rfl : ok = false := by rw [hokk, decide_eq_true hT, decide_eq_false hG]; rfl
                  generalize cls MT = ct at *
                  generalize cls MG = cg at *
                  clear hokk hT hG HOK
                  go_wp2_with fail
                  refine (HC1'.out _).mono ?_
                  rintro e w7 ⟨rfl, rfl⟩
                  go_wp2_with fail
                  refine (HC2'.out _).mono ?_
                  rintro e w7 ⟨rfl, rfl⟩
                  go_wp2_with fail
                  go_meet
                  exact ⟨rfl, rfl⟩
              · have q : decide ((1 : Int) < (cls MT : Int)) = true := decide_eq_true (by omega)
                obtain rfl : ok = false := by rw [hokk, decide_eq_false hT]; rfl
                generalize cls MT = ct at *
                clear hokk hT HOK
                go_wp2_with fail
                refine (HC1'.out _).mono ?_
                rintro e w7 ⟨rfl, rfl⟩
                go_wp2_with fail
                go_meet
                exact ⟨rfl, rfl⟩
            obtain ⟨rfl, rfl⟩ := hcut
            clear HOK HC1' HC2' HSA HSB2 HDA HHB hq0
            have hk64 : (k : Int) ≤ 64 := hm64'
            go_wp2_with fail
            go_loopw [15, 16] (fun bd i wr => ∃ j : Nat, ∃ bv : Bool, 1 ≤ j ∧ j ≤ k ∧ i = .int .i64 j ∧ bd = .bool bv ∧ Hid (bv = !(ok && finB MV j)) ∧ OwnK .u64 32 w.heap.size wr (.slice (some ⟨g, 0, none⟩) k qc) (zn (LF j)) ∧ Below w.heap.size w wr) (fun _ i _ => k - (intOf i).toNat)
            case atStart => exact ⟨1, !ok, Nat.le_refl _, hm1, rfl, rfl, Lib.hid (by rw [HV0.out, Bool.and_true]), hQ, B6⟩
            case round =>
              obtain ⟨j, bv, hj1, hj, rfl, rfl, HBV, hO, hB⟩ := hrel
              by_cases hlt : j < k
              · have kx := HXC.out wr hB j hlt
                have HBY1 := Lib.hid (HBY.out j)
                have HCQ1 := Lib.hid (HCQ.out j)
                have HS1 := Lib.hid (HLS.out j hj1)
                have HF1 := Lib.hid (HFS.out j hj1 hlt)
                have hjk : (j : Int) < (k : Int) := by omega
                have hjl : j < (zn (LF j)).length := by rw [HLL.out]; exact hlt
                generalize quotU (lim xs j) MG = z at *
                generalize lim xs j = x at *
                go_wp2_with fail
                refine (HBY1.out _).mono ?_
                rintro e w7 ⟨rfl, b7⟩
                have hO7 := hO.below b7
                have hB7 := below_both hB b7
                have kc := hO7.cell (j := j) hjl
                have kf := hO7.frozen j
                have hO8 := hO7.set j (z : Int)
                rw [← HS1.out] at hO8
                have hB8 := hB7.setCell (p := ⟨g, j, none⟩) hgb (.int .u64 (z : Int))
                have kn : (w7.setCell ⟨g, j, none⟩ (.int .u64 (z : Int))).cell? ⟨g, j, none⟩ = some (.int .u64 (z : Int)) := by
                  have := hO8.cell (j := j) (by rw [HLL.out]; exact hlt)
                  rw [HS1.out] at this
                  have h9 : zat ((zn (LF j)).set j (z : Int)) j = (z : Int) := by unfold zat; simp [hjl]
                  rwa [h9] at this
                have HO8 := Lib.hid hO8
                have HB8 := Lib.hid hB8
                clear hO hO7 hB b7 hB7 HS1 hO8 hB8 kx
                by_cases hz : cls z ≤ 1
                · have q : decide ((1 : Int) < (cls z : Int)) = false := decide_eq_false (by omega)
                  have HN : Hid (bv = !(ok && finB MV (j + 1))) := Lib.hid (by rw [HF1.out, decide_eq_true hz, Bool.and_true]; exact HBV.out)
                  generalize cls z = cz at *
                  clear hz HF1 HBV
                  cases bv
                  · go_wp2_with fail
                    refine (HCQ1.out _).mono ?_
                    rintro e w8 ⟨rfl, rfl⟩
                    go_wp2
                    exact ⟨⟨j + 1, false, by omega, by omega, by simp, rfl, HN, HO8.out, HB8.out⟩, by simp [intOf]; omega⟩
                  · go_wp2
                    exact ⟨⟨j + 1, true, by omega, by omega, by simp, rfl, HN, HO8.out, HB8.out⟩, by simp [intOf]; omega⟩
                · have q : decide ((1 : Int) < (cls z : Int)) = true := decide_eq_true (by omega)
                  have HN : Hid (true = !(ok && finB MV (j + 1))) := Lib.hid (by rw [HF1.out, decide_eq_false hz, Bool.and_false, Bool.and_false]; rfl)
                  generalize cls z = cz at *
                  clear hz HF1 HBV
                  cases bv
                  · go_wp2_with fail
                    refine (HCQ1.out _).mono ?_
                    rintro e w8 ⟨rfl, rfl⟩
                    go_wp2
                    exact ⟨⟨j + 1, true, by omega, by omega, by simp, rfl, HN, HO8.out, HB8.out⟩, by simp [intOf]; omega⟩
                  · go_wp2
                    exact ⟨⟨j + 1, true, by omega, by omega, by simp, rfl, HN, HO8.out, HB8.out⟩, by simp [intOf]; omega⟩
              · obtain rfl : j = k := by omega
                clear hlt
                rw [HLM.out] at hO
                have HB := Lib.hid hB
                have HN := Lib.hid (new_zn.2 (hO.new (Nat.lt_of_lt_of_le hpos hB.size)))
                have hme := HEI.out
                cases hbv : (ok && finB MV j)
                · have HT : Hid (E = 13 ∧ RT = 0 ∧ RB = 0 ∧ RV = []) := Lib.hid (by
                    rw [hbv, if_neg (by decide)] at hme
                    have : E = 13 := HRR.out.1.trans hme
                    exact ⟨this, HRR.out.2.2 this⟩)
                  obtain rfl : bv = true := by rw [HBV.out, hbv]; rfl
                  clear hme hbv hO hB
                  go_wp2
                  (try simp only [Exit.inBlock, Exit.then])
                  refine bodyPost_ret (results_tmp4 rfl _ _ _) rfl ?_
                  exact ⟨none, 0, 0, by rw [HT.out.1, HT.out.2.1, HT.out.2.2.1]; rfl, by rw [HT.out.2.2.2]; exact new_nil (b := 0) (Nat.lt_of_lt_of_le hpos HB.out.size), HB.out⟩
                · have HT : Hid (E = 0 ∧ RT = MT ∧ RB = bb ∧ RV = MV) := Lib.hid (by
                    rw [hbv, if_pos rfl] at hme
                    have : E = 0 := HRR.out.1.trans hme
                    exact ⟨this, HRR.out.2.1 this⟩)
                  obtain rfl : bv = false := by rw [HBV.out, hbv]; rfl
                  clear hme hbv hO hB
                  go_wp2
                  (try simp only [Exit.inBlock, Exit.then])
                  refine bodyPost_ret (results_tmp4 rfl _ _ _) rfl ?_
                  exact ⟨_, _, _, by rw [HT.out.1, HT.out.2.1, HT.out.2.2.1]; rfl, by rw [HT.out.2.2.2]; exact HN.out, HB.out⟩
      · as_aux_lemma =>
          rcases HW.out with ⟨h1, -⟩ | ⟨h1, h2, -⟩ | ⟨h1, h2, h3, e1, e2, e3, e4⟩ | ⟨h1, h2, h3, -⟩ | ⟨h1, h2, h3, -⟩ | ⟨h1, h2, h3, -⟩
          · exact absurd HC1.out h1
          · have := HMX.out; omega
          · have HT := Lib.hid (And.intro e1 (And.intro e2 (And.intro e3 e4)))
            have HN := Lib.hid (new_zn.2 (hQ.new hpw))
            have HB := Lib.hid hB
            have kx := HXC.out wr hB 0 hk0
            rw [Nat.add_zero] at kx
            have HKX0 : Hid (∀ W, Below w.heap.size w W → W.cell? ⟨S, off, none⟩ = some (.int .u64 (lim xs 0 : Int))) := Lib.hid (fun W h => by have := HXC.out W h 0 hk0; rwa [Nat.add_zero] at this)
            generalize lim xs 0 = x0 at *
            clear h1 h2 h3 e1 e2 e3 e4 HW hQ hB
            go_wp2_with fail
            go_region_held3 (fun W => W.cell? ⟨S, off, none⟩ = some (.int .u64 (x0 : Int)))
              (first | with_reducible exact HKX0.out _ HB.out | with_reducible exact HKX0.out _ HB.out.drew | go_keep)
              (fail)
            go_wp2
            (try simp only [Exit.inBlock, Exit.then])
            refine bodyPost_ret (results_tmp4 rfl _ _ _) rfl ?_
            exact ⟨_, _, _, by rw [HT.out.1, HT.out.2.1, HT.out.2.2.1]; rfl, by rw [HT.out.2.2.2]; (first | exact HN.out | exact HN.out.behind (Below.refl _ _).drew), (by first | exact HB.out | exact HB.out.drew)⟩
          · exact absurd (HSB.out.trans (by rw [← HSM.out, h3])) (by decide)
          · exact absurd (HSB.out.trans (by rw [← HSM.out, h3])) (by decide)
          · exact absurd (HSB.out.trans (by rw [← HSM.out, h3])) (by decide)
set_option maxRecDepth 100000 in
set_option maxHeartbeats 8000000 in
theorem houseTells_calls {va : Option Addr} {m cap : Nat} {xs : List Nat} {w : World} (hA : Arg w (.slice va m cap) xs) (hx : Low 18446744073709551616 xs) (hxn : xs.length ≤ 17592186044415) :
    Calls Try.prog 11 #[.slice va m cap] w fun e W' => e = .returned (.bool true) ∧ Below w.heap.size w W' := by
  have hmx : m = xs.length := by
    obtain ⟨a', c', e⟩ := hA.slice
    simp only [Value.slice.injEq] at e
    omega
  have hal := l25_alive w
  by_cases h1 : chkV xs = 0
  · by_cases h2 : xs.length = 0
    · have e1 : hoE xs = 11 := by unfold hoE; rw [if_neg (by simp [h1]), if_pos h2]
      have hne : hoE xs ≠ 0 := by rw [e1]; decide
      have e2 : hoRT xs = 0 := by unfold hoRT; rw [if_pos hne]
      have e3 : hoRB xs = 0 := by unfold hoRB; rw [if_pos hne]
      have e4 : hoRV xs = [] := by unfold hoRV; rw [if_pos hne]
      have HM := Lib.hid (fun (W : World) (h : Below w.heap.size w W) => house_make (hA.behind h) hx hxn)
      have HC := Lib.hid (fun (W : World) (h : Below w.heap.size w W) => vec_check (hA.behind h) hx (by omega))
      rw [e1, e2, e3, e4] at HM
      have hor : bits .or .u64 0 0 = 0 := by decide
      rw [h1] at HC
      obtain rfl : m = 0 := by omega
      clear e1 e2 e3 e4 hne h1 h2 hA hx hxn hmx
      go_enter Try.func11, Try.ntmps11
      go_wp2_with fail
      refine hal.mono ?_
      rintro e w1 ⟨rfl, b1⟩
      clear hal
      go_wp2_with fail
      refine (HM.out _ b1).mono ?_
      rintro e w2 ⟨a2, n2, c2, rfl, hN, b2⟩
      obtain rfl : n2 = 0 := by
        obtain ⟨a8, c8, e8⟩ := hN.arg.slice
        simp only [Value.slice.injEq, List.length_nil] at e8
        exact e8.2.1
      have B2 := below_both b1 b2
      clear hN b1 b2 HM
      go_wp2_with fail
      refine (HC.out _ B2).mono ?_
      rintro e w3 ⟨rfl, b3⟩
      have HB := Lib.hid (below_both B2 b3)
      clear B2 b3 HC
      go_wp2
      go_ret
      exact ⟨rfl, HB.out⟩
    · have h3 : 0 < xs.length := by omega
      have HM := Lib.hid (fun (W : World) (h : Below w.heap.size w W) => house_make (hA.behind h) hx hxn)
      have HC := Lib.hid (fun (W : World) (h : Below w.heap.size w W) => vec_check (hA.behind h) hx (by omega))
      have HD := Lib.hid (fun (W : World) (h : Below w.heap.size w W) => l25_made (hA.behind h) hx h1 h3)
      have HRL : Hid ((hoRV xs).length ≤ 9223372036854775806) := Lib.hid (by
        have h64 := (chkV_ok.1 h1).1
        unfold hoRV
        split
        · simp
        · split
          · unfold hoU; rw [rowV_length]; omega
          · unfold mirV; rw [rowV_length]; omega)
      rw [h1] at HC
      generalize hoE xs = E at *
      generalize hoRT xs = T at *
      generalize hoRB xs = Bt at *
      generalize hoRV xs = V at *
      have d0 : ((m : Int) == 0) = false := beq_eq_false_iff_ne.2 (by omega)
      have d1 : (E == E) = true := by simp
      have d2 : ((T : Int) == (T : Int)) = true := by simp
      have d3 : ((Bt : Int) == (Bt : Int)) = true := by simp
      clear h1 h2 h3 hA hx hxn hmx
      go_enter Try.func11, Try.ntmps11
      go_wp2_with fail
      refine hal.mono ?_
      rintro e w1 ⟨rfl, b1⟩
      clear hal
      go_wp2_with fail
      refine (HM.out _ b1).mono ?_
      rintro e w2 ⟨a2, n2, c2, rfl, hN, b2⟩
      have B2 := below_both b1 b2
      have A2 := hN.arg
      clear hN b1 b2 HM
      go_wp2_with fail
      refine (HC.out _ B2).mono ?_
      rintro e w3 ⟨rfl, b3⟩
      have B3 := below_both B2 b3
      replace A2 := A2.behind b3
      clear B2 b3 HC
      go_wp2_with fail
      refine (HD.out _ B3).mono ?_
      rintro e w4 ⟨a4, n4, c4, rfl, hN4, b4⟩
      have B4 := below_both B3 b4
      have hsm := same_arg (A2.behind b4) hN4.arg HRL.out
      clear B3 A2 b4 hN4 HD
      go_wp2_with fail
      refine hsm.mono ?_
      rintro e w5 ⟨rfl, b5⟩
      have HB := Lib.hid (below_both B4 b5)
      clear hsm b5 B4
      go_wp2
      go_ret
      exact ⟨rfl, HB.out⟩
  · have e1 : hoE xs = chkV xs := by unfold hoE; rw [if_pos h1]
    have hne : hoE xs ≠ 0 := by rw [e1]; exact h1
    have e2 : hoRT xs = 0 := by unfold hoRT; rw [if_pos hne]
    have e3 : hoRB xs = 0 := by unfold hoRB; rw [if_pos hne]
    have e4 : hoRV xs = [] := by unfold hoRV; rw [if_pos hne]
    have HM := Lib.hid (fun (W : World) (h : Below w.heap.size w W) => house_make (hA.behind h) hx hxn)
    have HC := Lib.hid (fun (W : World) (h : Below w.heap.size w W) => vec_check (hA.behind h) hx (by omega))
    rw [e1, e2, e3, e4] at HM
    have hor : bits .or .u64 0 0 = 0 := by decide
    have d1 : (chkV xs != 0) = true := bne_iff_ne.2 h1
    have d2 : (chkV xs == chkV xs) = true := by simp
    generalize chkV xs = E at *
    clear e1 e2 e3 e4 hne h1 hA hx hxn hmx
    go_enter Try.func11, Try.ntmps11
    go_wp2_with fail
    refine hal.mono ?_
    rintro e w1 ⟨rfl, b1⟩
    clear hal
    go_wp2_with fail
    refine (HM.out _ b1).mono ?_
    rintro e w2 ⟨a2, n2, c2, rfl, hN, b2⟩
    obtain rfl : n2 = 0 := by
      obtain ⟨a8, c8, e8⟩ := hN.arg.slice
      simp only [Value.slice.injEq, List.length_nil] at e8
      exact e8.2.1
    have B2 := below_both b1 b2
    clear hN b1 b2 HM
    go_wp2_with fail
    refine (HC.out _ B2).mono ?_
    rintro e w3 ⟨rfl, b3⟩
    have HB := Lib.hid (below_both B2 b3)
    clear B2 b3 HC
    go_wp2
    go_ret
    exact ⟨rfl, HB.out⟩
end Go.Proofs.Ytdcebkhdnhdejaa
