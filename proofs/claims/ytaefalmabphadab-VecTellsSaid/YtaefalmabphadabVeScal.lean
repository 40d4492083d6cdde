/- vec: told, Scal, Add, Axpy. -/
import Derived.Test.YtaefalmabphadabVeSpec
import Derived.Test.YtaefalmabphadabOw
import Derived.Deep.RegionWith
namespace Go.Proofs.Ytaefalmabphadab
open Go.RowKit Go.Shelf
theorem vec_told {v : Value} {xs : List Nat} {b : Nat} {w : World} (hO : OwnK .u64 42 b w v (zn xs)) (h0 : 0 < w.heap.size) (hl : Low 18446744073709551616 xs) (hn : xs.length ≤ 17592186044416) :
    Calls Try.prog 80 #[v] w fun e W' => ∃ v', e = .returned (.tuple #[v', .int .i64 (if finB xs xs.length then 0 else 13)]) ∧ OwnK .u64 42 b W' v' (zn (if finB xs xs.length then xs else [])) ∧ Below w.heap.size w W' := by
  have hc := vec_contains (new_zn.2 (hO.new h0)).arg hl hn
  cases hf : finB xs xs.length
  · rw [hf] at hc
    rw [if_neg (by decide), if_neg (by decide)]
    clear hf
    go_enter Try.func80, Try.ntmps80
    go_wp2_with fail
    refine hc.mono ?_
    rintro e w1 ⟨rfl, b1⟩
    clear hc
    go_wp2
    go_ret2
    exact ⟨_, rfl, OwnK.nil _ _ _ _, b1⟩
  · rw [hf] at hc
    rw [if_pos rfl, if_pos rfl]
    clear hf
    go_enter Try.func80, Try.ntmps80
    go_wp2_with fail
    refine hc.mono ?_
    rintro e w1 ⟨rfl, b1⟩
    clear hc
    go_wp2
    go_ret2
    exact ⟨_, rfl, hO.below b1, b1⟩
theorem tellV_no {want : List Nat} {f : Int} (h : f ≠ 0) : tellV want f = f := by unfold tellV; rw [if_pos h]
theorem tellV_yes {want : List Nat} : tellV want 0 = if finB want want.length then 0 else 13 := by unfold tellV; rw [if_neg (by decide)]
theorem chk_self (xs : List Nat) (e : Int) : bothV xs xs e = if chkV xs ≠ 0 then chkV xs else e := by
  unfold bothV
  by_cases h : chkV xs = 0
  · by_cases h2 : e = 0
    · simp [h, h2]
    · simp [h, h2]
  · simp [h]
set_option maxRecDepth 100000 in
set_option maxHeartbeats 16000000 in
theorem vec_scal {va : Value} {xs : List Nat} {a : Nat} {w : World} (ha : (a : Int) ≤ 18446744073709551615) (hX : Arg w va xs) (hx : Low 18446744073709551616 xs) (hxn : xs.length ≤ 17592186044416) :
    Calls Try.prog 39 #[.int .u64 (a : Int), va] w fun e W' => ∃ v', e = .returned (.tuple #[v', .int .i64 (tellV (scalV a xs) (bothV xs xs (nfE a)))]) ∧ OwnK .u64 42 w.heap.size W' v' (zn (if tellV (scalV a xs) (bothV xs xs (nfE a)) = 0 then scalV a xs else [])) ∧ Below w.heap.size w W' := by
  have hpos : 0 < w.heap.size := by obtain ⟨S, hS, _⟩ := hX; omega
  have hp := fun (W : World) (h : Below w.heap.size w W) => vec_pair (a := a) (hX.behind h) (hX.behind h) hx hx hxn hxn (ha)
  have hcl := fun (W : World) (h : Below w.heap.size w W) => clone_own _ xs hxn W (hX.behind h)
  by_cases h0 : bothV xs xs (nfE a) = 0
  · have hln := (bothV_ok h0).2.2.2
    rw [h0]
    rw [h0] at hp
    have HE0 := Lib.hid (tellV_yes (want := scalV a xs))
    have hwu : scalV a xs = upd (fun i => timesU a (lim xs i)) xs xs.length := by
      rw [upd_all]
      first | rfl | (unfold scalV rowV; rw [hln, Nat.min_self]) | (unfold scalV rowV; rw [← hln, Nat.min_self])
    have hlw : Low 18446744073709551616 (scalV a xs) := by
      refine rowV_low fun i _ => ?_
      have h1 := lim_lt hx (by decide : 0 < 18446744073709551616) i
      
      exact timesU_lt _ _
    have hwl : (scalV a xs).length = xs.length := by rw [hwu, upd_length]
    have HF := Lib.hid (fun k => show upd (fun i => timesU a (lim xs i)) xs (k + 1) = (upd (fun i => timesU a (lim xs i)) xs k).set k (timesU a (lim xs k)) from upd_succ)
    have HF0 := Lib.hid (upd_zero (fun i => timesU a (lim xs i)) xs)
    have HFA : Hid (∀ k, k < xs.length → lim (upd (fun i => timesU a (lim xs i)) xs k) k = lim xs k) := Lib.hid (fun k hk => by rw [upd_at hk, if_neg (by omega)])
    have HFL := Lib.hid (fun k => upd_length (fun i => timesU a (lim xs i)) xs k)
    have HWU := Lib.hid hwu
    have HXL := Lib.hid (fun k => lim_lt hx (by decide : 0 < 18446744073709551616) k)
    
    have htl := fun (W : World) (v : Value) (h : OwnK .u64 42 w.heap.size W v (zn (scalV a xs))) (hp : 0 < W.heap.size) => vec_told h hp hlw (by rw [hwl]; exact hxn)
    clear hwu hlw h0
    generalize scalV a xs = wl at *
    generalize tellV wl 0 = E at *
    obtain ⟨RL, hRL⟩ : ∃ RL : List Nat, RL = if E = 0 then wl else [] := ⟨_, rfl⟩
    rw [← hRL]
    have HRL := Lib.hid hRL
    clear hRL
    generalize upd (fun i => timesU a (lim xs i)) xs = F at *
    have HTL := Lib.hid htl
    have HP := Lib.hid hp
    have HCL := Lib.hid hcl
    obtain ⟨S, sa, scap, hS, rfl, _, HX⟩ := hX.opened
    clear htl hp hcl hX  hln
    generalize xs.length = m at *
    go_enter Try.func39, Try.ntmps39
    go_wp2_with fail
    refine (HP.out _ (Below.refl _ _)).mono ?_
    rintro e w1 ⟨rfl, b1⟩
    go_wp2_with fail
    refine (HCL.out _ b1).mono ?_
    rintro e w2 ⟨v, rfl, hO, b2⟩
    have B2 := below_both b1 b2
    replace hO := hO.mono b1.size
    rw [← HF0.out] at hO
    obtain ⟨oa, oc, hof⟩ := hO.len
    rw [zn_length, HFL.out] at hof
    have hpos2 := Nat.lt_of_lt_of_le hpos B2.size
    subst hof
    go_wp2_with fail
    go_loopw [21] (fun i wr => ∃ k : Nat, k ≤ m ∧ i = .int .i64 k ∧ OwnK .u64 42 w.heap.size wr (.slice oa m oc) (zn (F k)) ∧ Below w.heap.size w wr) (fun i _ => m - (intOf i).toNat)
    case atStart => exact ⟨0, Nat.zero_le _, rfl, hO, B2⟩
    case round =>
      obtain ⟨k, hk, rfl, hOk, hB⟩ := hrel
      by_cases hlt : k < m
      · obtain ⟨g, gc, hge, hgb, hgl⟩ := hOk.form (by rw [zn_length, HFL.out]; omega)
        rw [zn_length, HFL.out] at hge
        simp only [Value.slice.injEq, true_and] at hge
        obtain ⟨rfl, rfl⟩ := hge
        have hcel := hOk.cell (j := k) (by rw [zn_length, HFL.out]; exact hlt)
        rw [zn_at (by rw [HFL.out]; exact hlt), HFA.out k hlt] at hcel
        have hfz := hOk.frozen k
        have h1 := HXL.out k
        
        have HS := Lib.hid (HF.out k)
        obtain ⟨xo, rfl, kx⟩ := HX.out wr hB k hlt
        
        generalize lim xs k = x at *
        
        have hm := fun w => vec_mul (a := a) (b := x) (w := w) ha (by omega)
        generalize timesU a x = t at *
        have Br : Below wr.heap.size wr wr := Below.refl _ _
        go_wp2_with fail
        refine (hm _).mono ?_
        rintro e w4 ⟨rfl, b4⟩
        replace Br := below_both Br b4
        have hO4 := hOk.below b4
        have hcel := hO4.cell (j := k) (by rw [zn_length, HFL.out]; exact hlt)
        have hfz := hO4.frozen k
        all_goals
          go_wp2
          refine ⟨⟨k + 1, by omega, by simp, ?_, ?_⟩, by simp [intOf]; omega⟩
          · rw [HS.out, zn_set]
            exact (by first | exact OwnK.set (hOk.below Br) _ _ | exact OwnK.set ((hOk.below Br).drew) _ _ | exact OwnK.set (hOk.below Br.drew) _ _)
          · exact (by first | exact (below_both hB Br).setCell (p := ⟨_, _, none⟩) hgb _ | exact (below_both hB Br.drew).setCell (p := ⟨_, _, none⟩) hgb _)
      · obtain rfl : k = m := by omega
        rw [← HWU.out] at hOk
        have ht := HTL.out _ _ hOk (Nat.lt_of_lt_of_le hpos hB.size)
        cases hfb : finB wl wl.length
        · rw [hfb] at ht
          have HE1 : Hid (E = 13) := Lib.hid (by rw [HE0.out, hfb]; rfl)
          have HR1 : Hid (RL = []) := Lib.hid (by rw [HRL.out, HE1.out]; rfl)
          replace ht : Calls Try.prog 80 #[.slice oa k oc] wr fun e W' => ∃ v', e = .returned (.tuple #[v', .int .i64 13]) ∧ OwnK .u64 42 w.heap.size W' v' (zn []) ∧ Below wr.heap.size wr W' := ht
          clear hfb
          go_wp2_with fail
          refine ht.mono ?_
          rintro e w3 ⟨v', rfl, hO3, b3⟩
          go_wp2
          go_ret2
          exact ⟨_, by rw [HE1.out]; rfl, by rw [HR1.out]; exact hO3, below_both hB b3⟩
        · rw [hfb] at ht
          replace ht : Calls Try.prog 80 #[.slice oa k oc] wr fun e W' => ∃ v', e = .returned (.tuple #[v', .int .i64 0]) ∧ OwnK .u64 42 w.heap.size W' v' (zn wl) ∧ Below wr.heap.size wr W' := ht
          have HE1 : Hid (E = 0) := Lib.hid (by rw [HE0.out, hfb]; rfl)
          have HR1 : Hid (RL = wl) := Lib.hid (by rw [HRL.out, HE1.out]; rfl)
          clear hfb
          go_wp2_with fail
          refine ht.mono ?_
          rintro e w3 ⟨v', rfl, hO3, b3⟩
          go_wp2
          go_ret2
          exact ⟨_, by rw [HE1.out]; rfl, by rw [HR1.out]; exact hO3, below_both hB b3⟩
  · rw [tellV_no h0, if_neg h0]
    have d : (bothV xs xs (nfE a) != 0) = true := bne_iff_ne.2 h0
    have HP := Lib.hid hp
    clear h0 hcl hp
    obtain ⟨sa, scap, rfl⟩ := hX.slice
    
    generalize bothV xs xs (nfE a) = bb at *
    go_enter Try.func39, Try.ntmps39
    go_wp2_with fail
    refine (HP.out _ (Below.refl _ _)).mono ?_
    rintro e w1 ⟨rfl, b1⟩
    go_wp2
    go_ret2
    exact ⟨_, rfl, OwnK.nil _ _ _ _, b1⟩
end Go.Proofs.Ytaefalmabphadab
