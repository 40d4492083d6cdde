/- vec: Axpy. -/
import Derived.Test.YtjapilpjahhimaaVeScal
namespace Go.Proofs.Ytjapilpjahhimaa
open Go.RowKit Go.Shelf
set_option maxRecDepth 100000 in
set_option maxHeartbeats 16000000 in
theorem vec_axpy {va vb : Value} {xs ys : List Nat} {a : Nat} {w : World} (ha : (a : Int) ≤ 18446744073709551615) (hX : Arg w va xs) (hY : Arg w vb ys) (hx : Low 18446744073709551616 xs) (hy : Low 18446744073709551616 ys) (hxn : xs.length ≤ 17592186044416) (hyn : ys.length ≤ 17592186044416) :
    Calls Try.prog 104 #[.int .u64 (a : Int), va, vb] w fun e W' => ∃ v', e = .returned (.tuple #[v', .int .i64 (tellV (axpyV a xs ys) (bothV xs ys (nfE a)))]) ∧ OwnK .u64 49 w.heap.size W' v' (zn (if tellV (axpyV a xs ys) (bothV xs ys (nfE a)) = 0 then axpyV a xs ys else [])) ∧ Below w.heap.size w W' := by
  have hpos : 0 < w.heap.size := by obtain ⟨S, hS, _⟩ := hX; omega
  have hp := fun (W : World) (h : Below w.heap.size w W) => vec_pair (a := a) (hX.behind h) (hY.behind h) hx hy hxn hyn (ha)
  have hcl := fun (W : World) (h : Below w.heap.size w W) => clone_own _ ys hyn W (hY.behind h)
  by_cases h0 : bothV xs ys (nfE a) = 0
  · have hln := (bothV_ok h0).2.2.2
    rw [h0]
    rw [h0] at hp
    have HE0 := Lib.hid (tellV_yes (want := axpyV a xs ys))
    have hwu : axpyV a xs ys = upd (fun i => plusU (lim ys i) (timesU a (lim xs i))) ys ys.length := by
      rw [upd_all]
      first | rfl | (unfold axpyV rowV; rw [hln, Nat.min_self]) | (unfold axpyV rowV; rw [← hln, Nat.min_self])
    have hlw : Low 18446744073709551616 (axpyV a xs ys) := by
      refine rowV_low fun i _ => ?_
      have h1 := lim_lt hy (by decide : 0 < 18446744073709551616) i
      have h2 := lim_lt hx (by decide : 0 < 18446744073709551616) i
      exact plusU_lt (by omega) (timesU_lt _ _)
    have hwl : (axpyV a xs ys).length = ys.length := by rw [hwu, upd_length]
    have HF := Lib.hid (fun k => show upd (fun i => plusU (lim ys i) (timesU a (lim xs i))) ys (k + 1) = (upd (fun i => plusU (lim ys i) (timesU a (lim xs i))) ys k).set k (plusU (lim ys k) (timesU a (lim xs k))) from upd_succ)
    have HF0 := Lib.hid (upd_zero (fun i => plusU (lim ys i) (timesU a (lim xs i))) ys)
    have HFA : Hid (∀ k, k < ys.length → lim (upd (fun i => plusU (lim ys i) (timesU a (lim xs i))) ys k) k = lim ys k) := Lib.hid (fun k hk => by rw [upd_at hk, if_neg (by omega)])
    have HFL := Lib.hid (fun k => upd_length (fun i => plusU (lim ys i) (timesU a (lim xs i))) ys k)
    have HWU := Lib.hid hwu
    have HXL := Lib.hid (fun k => lim_lt hx (by decide : 0 < 18446744073709551616) k)
    have HYL := Lib.hid (fun k => lim_lt hy (by decide : 0 < 18446744073709551616) k)
    have htl := fun (W : World) (v : Value) (h : OwnK .u64 49 w.heap.size W v (zn (axpyV a xs ys))) (hp : 0 < W.heap.size) => vec_told h hp hlw (by rw [hwl]; exact hyn)
    clear hwu hlw h0
    generalize axpyV a xs ys = wl at *
    generalize tellV wl 0 = E at *
    obtain ⟨RL, hRL⟩ : ∃ RL : List Nat, RL = if E = 0 then wl else [] := ⟨_, rfl⟩
    rw [← hRL]
    have HRL := Lib.hid hRL
    clear hRL
    generalize upd (fun i => plusU (lim ys i) (timesU a (lim xs i))) ys = F at *
    have HTL := Lib.hid htl
    have HP := Lib.hid hp
    have HCL := Lib.hid hcl
    obtain ⟨S, sa, scap, hS, rfl, _, HX⟩ := hX.opened
    obtain ⟨T, ta, tcap, hT, rfl, _, HY⟩ := hY.opened
    simp only [← hln] at HY hwl HFA HFL HP HCL HTL HWU ⊢
    clear htl hp hcl hX hY hln
    generalize xs.length = m at *
    go_enter Try.func104, Try.ntmps104
    go_wp2_with fail
    refine (HP.out _ (Below.refl _ _)).mono ?_
    rintro e w1 ⟨rfl, b1⟩
    go_wp2_with fail
    refine (HCL.out _ b1).mono ?_
    rintro e w2 ⟨v, rfl, hO, b2⟩
    have B2 := below_both b1 b2
    replace hO := hO.mono b1.size
    rw [← HF0.out] at hO
    obtain ⟨oa, oc, hof⟩ := hO.len
    rw [zn_length, HFL.out] at hof
    have hpos2 := Nat.lt_of_lt_of_le hpos B2.size
    subst hof
    go_wp2_with fail
    go_loopw [23] (fun i wr => ∃ k : Nat, k ≤ m ∧ i = .int .i64 k ∧ OwnK .u64 49 w.heap.size wr (.slice oa m oc) (zn (F k)) ∧ Below w.heap.size w wr) (fun i _ => m - (intOf i).toNat)
    case atStart => exact ⟨0, Nat.zero_le _, rfl, hO, B2⟩
    case round =>
      obtain ⟨k, hk, rfl, hOk, hB⟩ := hrel
      by_cases hlt : k < m
      · obtain ⟨g, gc, hge, hgb, hgl⟩ := hOk.form (by rw [zn_length, HFL.out]; omega)
        rw [zn_length, HFL.out] at hge
        simp only [Value.slice.injEq, true_and] at hge
        obtain ⟨rfl, rfl⟩ := hge
        have hcel := hOk.cell (j := k) (by rw [zn_length, HFL.out]; exact hlt)
        rw [zn_at (by rw [HFL.out]; exact hlt), HFA.out k hlt] at hcel
        have hfz := hOk.frozen k
        have h1 := HXL.out k
        have h2 := HYL.out k
        have HS := Lib.hid (HF.out k)
        obtain ⟨xo, rfl, kx⟩ := HX.out wr hB k hlt
        obtain ⟨yo, rfl, ky⟩ := HY.out wr hB k hlt
        generalize lim xs k = x at *
        generalize lim ys k = y at *
        have hm := fun w => vec_mul (a := a) (b := x) (w := w) ha (by omega)
        have h4 := timesU_lt a x
        have hd := fun w => vec_add (a := y) (b := timesU a x) (w := w) (by omega) (by omega)
        generalize timesU a x = u at *
        generalize plusU y u = t at *
        have HM := Lib.hid hm
        have HAD := Lib.hid hd
        have Br : Below wr.heap.size wr wr := Below.refl _ _
        go_wp2_with fail
        have hS2 := Nat.lt_of_lt_of_le hS hB.size
        have hT2 := Nat.lt_of_lt_of_le hT hB.size
        have hGx : ∀ v4 : World, Below wr.heap.size wr v4 → v4.cell? ⟨S, xo + k, none⟩ = some (.int .u64 (x : Int)) := fun v4 h => (h.cell (p := ⟨S, xo + k, none⟩) hS2).trans kx
        have hGy : ∀ v4 : World, Below wr.heap.size wr v4 → v4.cell? ⟨T, yo + k, none⟩ = some (.int .u64 (y : Int)) := fun v4 h => (h.cell (p := ⟨T, yo + k, none⟩) hT2).trans ky
        have hGo : ∀ v4 : World, Below wr.heap.size wr v4 → v4.cell? ⟨g, k, none⟩ = some (.int .u64 (y : Int)) := fun v4 h => (h.cell (p := ⟨g, k, none⟩) hgl).trans hcel
        have hGf : ∀ v4 : World, Below wr.heap.size wr v4 → v4.frozen? ⟨g, k, none⟩ = false := fun v4 h => (h.frozen (p := ⟨g, k, none⟩) hgl).trans hfz
        have HGX := Lib.hid hGx
        have HGY := Lib.hid hGy
        have HGO := Lib.hid hGo
        have HGF := Lib.hid hGf
        clear hGx hGy hGo hGf
        go_region_with (first
          | (go_at_call 97; refine (HM.out _).mono ?_; rintro e v4 ⟨rfl, bz⟩; replace Br : Below wr.heap.size wr v4 := (by first | exact below_both Br bz | exact below_both Br.drew bz | exact below_both Br.drew.drew bz); clear bz; have kx := HGX.out _ Br; have ky := HGY.out _ Br; have hcel := HGO.out _ Br; have hfz := HGF.out _ Br)
          | (go_at_call 96; refine (HAD.out _).mono ?_; rintro e v4 ⟨rfl, bz⟩; replace Br : Below wr.heap.size wr v4 := (by first | exact below_both Br bz | exact below_both Br.drew bz | exact below_both Br.drew.drew bz); clear bz; have kx := HGX.out _ Br; have ky := HGY.out _ Br; have hcel := HGO.out _ Br; have hfz := HGF.out _ Br))
        all_goals
          go_wp2
          refine ⟨⟨k + 1, by omega, by simp, ?_, ?_⟩, by simp [intOf]; omega⟩
          · rw [HS.out, zn_set]
            exact (by first | exact OwnK.set (hOk.below Br) _ _ | exact OwnK.set ((hOk.below Br).drew) _ _ | exact OwnK.set (hOk.below Br.drew) _ _)
          · exact (by first | exact (below_both hB Br).setCell (p := ⟨_, _, none⟩) hgb _ | exact (below_both hB Br.drew).setCell (p := ⟨_, _, none⟩) hgb _)
      · obtain rfl : k = m := by omega
        rw [← HWU.out] at hOk
        have ht := HTL.out _ _ hOk (Nat.lt_of_lt_of_le hpos hB.size)
        cases hfb : finB wl wl.length
        · rw [hfb] at ht
          have HE1 : Hid (E = 13) := Lib.hid (by rw [HE0.out, hfb]; rfl)
          have HR1 : Hid (RL = []) := Lib.hid (by rw [HRL.out, HE1.out]; rfl)
          replace ht : Calls Try.prog 116 #[.slice oa k oc] wr fun e W' => ∃ v', e = .returned (.tuple #[v', .int .i64 13]) ∧ OwnK .u64 49 w.heap.size W' v' (zn []) ∧ Below wr.heap.size wr W' := ht
          clear hfb
          go_wp2_with fail
          refine ht.mono ?_
          rintro e w3 ⟨v', rfl, hO3, b3⟩
          go_wp2
          go_ret2
          exact ⟨_, by rw [HE1.out]; rfl, by rw [HR1.out]; exact hO3, below_both hB b3⟩
        · rw [hfb] at ht
          replace ht : Calls Try.prog 116 #[.slice oa k oc] wr fun e W' => ∃ v', e = .returned (.tuple #[v', .int .i64 0]) ∧ OwnK .u64 49 w.heap.size W' v' (zn wl) ∧ Below wr.heap.size wr W' := ht
          have HE1 : Hid (E = 0) := Lib.hid (by rw [HE0.out, hfb]; rfl)
          have HR1 : Hid (RL = wl) := Lib.hid (by rw [HRL.out, HE1.out]; rfl)
          clear hfb
          go_wp2_with fail
          refine ht.mono ?_
          rintro e w3 ⟨v', rfl, hO3, b3⟩
          go_wp2
          go_ret2
          exact ⟨_, by rw [HE1.out]; rfl, by rw [HR1.out]; exact hO3, below_both hB b3⟩
  · rw [tellV_no h0, if_neg h0]
    have d : (bothV xs ys (nfE a) != 0) = true := bne_iff_ne.2 h0
    have HP := Lib.hid hp
    clear h0 hcl hp
    obtain ⟨sa, scap, rfl⟩ := hX.slice
    obtain ⟨ta, tcap, rfl⟩ := hY.slice
    generalize bothV xs ys (nfE a) = bb at *
    go_enter Try.func104, Try.ntmps104
    go_wp2_with fail
    refine (HP.out _ (Below.refl _ _)).mono ?_
    rintro e w1 ⟨rfl, b1⟩
    go_wp2
    go_ret2
    exact ⟨_, rfl, OwnK.nil _ _ _ _, b1⟩
end Go.Proofs.Ytjapilpjahhimaa
