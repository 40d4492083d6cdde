/- nat.Mul: the product of two naturals. -/
import Derived.Test.YtdcebkhdnhdejaaAddRow
import Derived.Test.YtdcebkhdnhdejaaBits
import Derived.Test.YtdcebkhdnhdejaaSame
namespace Go.Proofs.Ytdcebkhdnhdejaa
open Go.RowKit Go.Shelf

attribute [local go_sem] Oper.semAt_some

set_option maxRecDepth 100000 in
set_option maxHeartbeats 2000000 in
theorem mul_in (n : Nat) (hn : 8 ≤ n) (ba bb : Nat) (va vb : Value) (xs ys : List Nat) (hxy : xs.length + ys.length ≤ 17592186044416) (hx : Low 18446744073709551616 xs) (hy : Low 18446744073709551616 ys)
    (w : World) (hba : ba < w.heap.size) (hbb : bb < w.heap.size) (hA : RdAt ba w va xs) (hB : RdAt bb w vb ys) :
    CallsIn Fence.wide n Try.prog 149 #[va, vb] w fun e W' => ∃ v, e = .returned v ∧ New w.heap.size W' v (digs 18446744073709551616 (val 18446744073709551616 xs * val 18446744073709551616 ys)) ∧ Below w.heap.size w W' := by
  have h1 : 1 ≤ n := by omega
  have hxl : xs.length ≤ 17592186044416 := by omega
  have hyl : ys.length ≤ 17592186044416 := by omega
  rw [← val_cutz _ xs, ← val_cutz _ ys]
  have hmx := follows
  have hxl' : xs.length ≤ 9223372036854775806 := by omega
  have hyl' : ys.length ≤ 9223372036854775806 := by omega
  obtain ⟨a, cap, hva, hcap, _⟩ := hA.slice
  obtain ⟨b, cbp, hvb, hcbp, _⟩ := hB.slice
  subst hva hvb
  refine callsIn_of_wp_marks Try.func149 rfl trivial ?_ rfl
  simp only [Try.ntmps149, List.size_toArray, List.length_cons, List.length_nil, Nat.reduceAdd, Nat.reduceSub, Array.replicate_succ, Array.replicate_zero, List.push_toArray, List.append_toArray, List.nil_append, List.cons_append]
  gi_wp2
  have bX := Boxed.new w 22 (.slice b ys.length cbp)
  have hB0 : Below w.heap.size w (w.alloc (.cells #[.slice b ys.length cbp] 22)) := (Below.refl _ w).alloc (Nat.le_refl _) _
  generalize hW1 : (w.alloc (.cells #[.slice b ys.length cbp] 22)) = W1 at *
  clear hW1
  refine wpIn_calm ?_
  gi_cut [0] from 8 (fun s0 wc => ∃ vb', RdAt ba w s0 (cutz xs) ∧ RdAt bb w vb' (cutz ys) ∧ Boxed wc w.heap.size 22 vb' ∧ Below w.heap.size w wc)
  case first =>
    have bX := bX.drew
    have hcX := bX.cell
    have hfX := bX.frozen
    have hB0 := hB0.drew
    gi_region_with_o (refine ⟨trivial, ?_⟩; gi_at_call 157; refine (callsIn_wide.2 (trim_from (w0 := w) (by assumption) (by assumption) (by assumption) (by assumption))).mono ?_; rintro e w' ⟨a1, c1, rfl, hr1, hb1, hb2⟩; have bX := bX.behind hb1; have hcX := bX.cell; have hfX := bX.frozen)
    all_goals gi_wp2_with fail
    all_goals gi_meet
    all_goals exact ⟨_, by assumption, hr1, bX.set _, hb2.setCell (p := ⟨w.heap.size, 0, none⟩) (Nat.le_refl _) _⟩
  case rest =>
    obtain ⟨vb', hA', hB', bX', hBc⟩ := hcut
    obtain ⟨a', cap', rfl, hcap', hsa⟩ := hA'.slice
    obtain ⟨b', cbp', rfl, hcbp', hsb⟩ := hB'.slice
    have hpc := cutz_cutz xs
    have hqc := cutz_cutz ys
    have hpl := cutz_low hx
    have hql := cutz_low hy
    have hpx : (cutz xs).length ≤ 17592186044416 := Nat.le_trans (cutz_length xs) hxl
    have hqx : (cutz ys).length ≤ 17592186044416 := Nat.le_trans (cutz_length ys) hyl
    have hpq : (cutz xs).length + (cutz ys).length ≤ 17592186044416 := by have := cutz_length xs; have := cutz_length ys; omega
    generalize hpx' : cutz xs = p at *
    generalize hqy' : cutz ys = q at *
    have HPX := Lib.hid hpx'
    have HQY := Lib.hid hqy'
    clear hpx' hqy'
    have HPC := Lib.hid hpc
    have HQC := Lib.hid hqc
    clear bX hB0 hA hB hpc hqc
    have hcX := bX'.cell
    have hfX := bX'.frozen
    have hsz := hBc.size
    have hbx := bX'.lt
    by_cases hp0 : p.length = 0
    · have hd : ((p.length : Int) == 0) = true := by simp [hp0]
      have HP0 := Lib.hid hp0
      clear hp0
      gi_wp2
      refine ⟨_, results_tmp rfl _ _ _, _, rfl, ⟨ba, .inl ⟨⟨_, _, rfl⟩, ?_⟩, by omega, .inl rfl⟩, hBc⟩
      rw [HPX.out, HQY.out, List.eq_nil_of_length_eq_zero HP0.out]
      simp [val, digs_zero]
    · by_cases hq0 : q.length = 0
      · have hd : ((p.length : Int) == 0) = false := by simp [hp0]
        have hd2 : ((q.length : Int) == 0) = true := by simp [hq0]
        have HP0 := Lib.hid hp0
        have HQ0 := Lib.hid hq0
        clear hp0 hq0
        gi_wp2
        refine ⟨_, results_tmp rfl _ _ _, _, rfl, ⟨ba, .inl ⟨⟨_, _, rfl⟩, ?_⟩, by omega, .inl rfl⟩, hBc⟩
        rw [HPX.out, HQY.out, List.eq_nil_of_length_eq_zero HQ0.out]
        simp [val, digs_zero]
      · have hd : ((p.length : Int) == 0) = false := by simp [hp0]
        have hd2 : ((q.length : Int) == 0) = false := by simp [hq0]
        have hp1 : 0 < p.length := by omega
        have hq1 : 0 < q.length := by omega
        clear hp0 hq0
        have hmk : ∀ u : World, (Instr.makeSlice 22 (.int .i64 ((p.length : Int) + (q.length : Int))) (.int .i64 ((p.length : Int) + (q.length : Int)))).run Try.prog u =
          .ok (.slice (some ⟨u.heap.size, 0, none⟩) (p.length + q.length) (p.length + q.length)) (u.alloc (.cells (cellsOf .u64 (List.replicate (p.length + q.length) 0)) 32)) := make_u64 (p.length + q.length) (by omega)
        gi_wp2_with (refine ⟨trivial, ?_⟩; gi_at_call 158; refine (up_in Fence.wide (n - 1) trivial rfl _ _ _ _).mono ?_; rintro e w' ⟨rfl, rfl⟩)
        have r0 := ((Row.new wc .u64 32 (List.replicate (p.length + q.length) 0)).alloc (.cells #[.slice (some ⟨wc.heap.size, 0, none⟩) (p.length + q.length) (p.length + q.length)] 22)).alloc (.cells #[.slice a' p.length cap'] 22)
        have b1 := (Boxed.new (wc.alloc (.cells (cellsOf .u64 (List.replicate (p.length + q.length) 0)) 32)) 22 (.slice (some ⟨wc.heap.size, 0, none⟩) (p.length + q.length) (p.length + q.length))).alloc (.cells #[.slice a' p.length cap'] 22)
        have b3 := Boxed.new ((wc.alloc (.cells (cellsOf .u64 (List.replicate (p.length + q.length) 0)) 32)).alloc (.cells #[.slice (some ⟨wc.heap.size, 0, none⟩) (p.length + q.length) (p.length + q.length)] 22)) 22 (.slice a' p.length cap')
        have bX4 := ((bX'.alloc (.cells (cellsOf .u64 (List.replicate (p.length + q.length) 0)) 32)).alloc (.cells #[.slice (some ⟨wc.heap.size, 0, none⟩) (p.length + q.length) (p.length + q.length)] 22)).alloc (.cells #[.slice a' p.length cap'] 22)
        have hB4 := ((hBc.alloc hsz (.cells (cellsOf .u64 (List.replicate (p.length + q.length) 0)) 32)).alloc (by simp; omega) (.cells #[.slice (some ⟨wc.heap.size, 0, none⟩) (p.length + q.length) (p.length + q.length)] 22)).alloc (by simp; omega) (.cells #[.slice a' p.length cap'] 22)
        have hA4 : RdAt ba _ (.slice a' p.length cap') p := hA'.kept (hB4.block ba hba)
        simp only [World.size_alloc] at r0 b1 b3
        refine wpIn_rangeFunc_ownG rfl h1 (gf := 170) (lb := #[.pointer (some ⟨wc.heap.size + 1 + 1, 0, none⟩)]) rfl trivial (enters_of Try.func170 (by kernel_rfl) rfl)
          (up_stops Fence.wide (n - 1) trivial rfl (by omega) (wc.heap.size + 1 + 1) ba _ p (by omega) _ (by simp) (by simp; omega) b3.cell hA4) Keep.trans (keep_put (by simp) (by simp; omega)) (Below.refl _ _) (fun _ => rfl)
          (fun pre W => (Row .u64 32 W wc.heap.size (mulRun p q (pre.map Subtype.val)) ∧ Boxed W (wc.heap.size + 1) 22 (.slice (some ⟨wc.heap.size, 0, none⟩) (p.length + q.length) (p.length + q.length)) ∧ Boxed W w.heap.size 22 (.slice b' q.length cbp') ∧ Boxed W (wc.heap.size + 1 + 1) 22 (.slice a' p.length cap')) ∧ Below w.heap.size w W)
          (fun _ _ _ => False)
          (OwnFrom.and (OwnFrom.and (Own.from (row_own _ _ _ _) _) (OwnFrom.and (Own.from (boxed_own _ _ _) _) (OwnFrom.and (Own.from (boxed_own _ _ _) _) (Own.from (boxed_own _ _ _) _)))) (ownFrom_below (Nat.le_refl _) (by simp; omega)))
          (fun _ _ _ _ _ hs _ _ => hs)
          ⟨⟨r0, b1, bX4, b3⟩, hB4⟩
          ?a1 ?assign ?body ?done ?stop
        case assign =>
          intro l x W K hK
          gi_wp2
          exact hK
        case body =>
          rintro l pre x W ⟨⟨hr, c1, cX, cN⟩, hB⟩ _
          have hx := x.2
          have hS : Hid (mulRun p q ((pre ++ [x]).map Subtype.val) = mulStep p q (mulRun p q (pre.map Subtype.val)) x.1) := Lib.hid (by rw [List.map_append]; exact mulRun_snoc _ _ _ _)
          obtain ⟨f1, f2⟩ := mul_fine hpl hql (pre.map Subtype.val)
          generalize hst : mulRun p q (pre.map Subtype.val) = st at hr hS f1 f2
          have HST := Lib.hid hst
          clear hst
          have k1 := c1.cell
          have kX := cX.cell
          have hQW : RdAt bb W (.slice b' q.length cbp') q := hB'.kept (hB.block bb hbb)
          have hxp := lim_lt hpl (by decide) x.1
          have hw1 : IntKind.i64.wrap ((x.1 : Int) + (q.length : Int)) = (x.1 : Int) + (q.length : Int) := IntWalk.i64_in _ (by omega)
          have hw2 : ((x.1 : Int) + (q.length : Int)).toNat = x.1 + q.length := by omega
          have hi1 : (0 : Int) ≤ (x.1 : Int) := by omega
          have hi2 : (x.1 : Int) ≤ (x.1 : Int) + (q.length : Int) := by omega
          have hi3 : (x.1 : Int) + (q.length : Int) ≤ ((p.length + q.length : Nat) : Int) := by omega
          have hi4 : (0 : Int) ≤ (x.1 : Int) + (q.length : Int) := by omega
          have hi5 : (p.length + q.length = x.1) = False := by simp; omega
          have hi6 : x.1 + q.length - x.1 = q.length := by omega
          have hi7 : x.1 ≤ p.length := by omega
          have hi8 : (x.1 : Int) + (q.length : Int) < (p.length : Int) + (q.length : Int) := by omega
          have hi9 : x.1 < p.length := hx
          have hcN := cN.lt
          have F1 := Lib.hid f1
          have hfl : x.1 + q.length < st.length := by omega
          clear f1
          have hBl := hB.size
          gi_wp2
          refine region_round hmx (by kernel_rfl) (by rintro ⟨_, _, h⟩; exact h) (fun u => u.cell? ⟨w.heap.size, 0, none⟩ = some (.slice b' q.length cbp') ∧ u.cell? ⟨wc.heap.size + 1, 0, none⟩ = some (.slice (some ⟨wc.heap.size, 0, none⟩) (p.length + q.length) (p.length + q.length))) ⟨kX, k1⟩ (fun hHeld => ?_)
          refine wpAnyH_take (i := 1) (v := ?_) rfl (by kernel_rfl) (by kernel_rfl) (by kernel_rfl) (fun _ _ _ h => h) (Or.inl ⟨by rfl, ?_⟩) (by assumption) ?_
          rotate_left
          · (intro _ hSw; (try dsimp only at hSw); (first | (go_simp; done) | (go_simp; with_reducible rfl)))
          try simp only [Act.put, List.getElem_toArray, List.getElem_cons_zero, List.getElem_cons_succ, List.setIfInBounds_toArray, List.set_cons_zero, List.set_cons_succ]
          refine wpAnyH_take (i := 6) (v := ?_) rfl (by kernel_rfl) (by kernel_rfl) (by kernel_rfl) (fun _ _ _ h => h) (Or.inl ⟨by rfl, ?_⟩) (by assumption) ?_
          rotate_left
          · (intro _ hSw; (try dsimp only at hSw); (first | (go_simp; done) | (go_simp; with_reducible rfl)))
          try simp only [Act.put, List.getElem_toArray, List.getElem_cons_zero, List.getElem_cons_succ, List.setIfInBounds_toArray, List.set_cons_zero, List.set_cons_succ]
          refine wpAnyH_take (i := 7) (v := ?_) rfl (by kernel_rfl) (by kernel_rfl) (by kernel_rfl) (fun _ _ _ h => h) (Or.inl ⟨by rfl, ?_⟩) (by assumption) ?_
          rotate_left
          · (intro _ hSw; (try dsimp only at hSw); (first | (go_simp; done) | (go_simp; with_reducible rfl)))
          try simp only [Act.put, List.getElem_toArray, List.getElem_cons_zero, List.getElem_cons_succ, List.setIfInBounds_toArray, List.set_cons_zero, List.set_cons_succ]
          refine wpAnyH_take (i := 13) (v := ?_) rfl (by kernel_rfl) (by kernel_rfl) (by kernel_rfl) (fun _ _ _ h => h) (Or.inl ⟨by rfl, ?_⟩) (by assumption) ?_
          rotate_left
          · (intro _ hSw; (try dsimp only at hSw); (first | (go_simp; done) | (go_simp; with_reducible rfl)))
          try simp only [Act.put, List.getElem_toArray, List.getElem_cons_zero, List.getElem_cons_succ, List.setIfInBounds_toArray, List.set_cons_zero, List.set_cons_succ]
          refine wpAnyH_take (i := 0) (v := ?_) rfl (by kernel_rfl) (by kernel_rfl) (by kernel_rfl) (fun _ _ _ h => h) (Or.inl ⟨by rfl, ?_⟩) (by assumption) ?_
          rotate_left
          · (intro _ hSw; (try dsimp only at hSw); (first | (go_simp; done) | (go_simp; with_reducible rfl)))
          try simp only [Act.put, List.getElem_toArray, List.getElem_cons_zero, List.setIfInBounds_toArray, List.set_cons_zero, List.set_cons_succ]
          refine wpAnyH_take (i := 2) (v := ?_) rfl (by kernel_rfl) (by kernel_rfl) (by kernel_rfl) (fun _ _ _ h => h) (Or.inl ⟨by rfl, ?_⟩) (by assumption) ?_
          rotate_left
          · (intro _ hSw; (try dsimp only at hSw); (first | (go_simp; done) | (go_simp; with_reducible rfl)))
          try simp only [Act.put, List.getElem_toArray, List.getElem_cons_zero, List.getElem_cons_succ, List.setIfInBounds_toArray, List.set_cons_zero, List.set_cons_succ]
          refine wpAnyH_take (i := 5) (v := ?_) rfl (by kernel_rfl) (by kernel_rfl) (by kernel_rfl) (fun _ _ _ h => h) (Or.inl ⟨by rfl, ?_⟩) (by assumption) ?_
          rotate_left
          · (intro _ hSw; (try dsimp only at hSw); (first | (go_simp; done) | (go_simp; with_reducible rfl)))
          try simp only [Act.put, List.getElem_toArray, List.getElem_cons_zero, List.getElem_cons_succ, List.setIfInBounds_toArray, List.set_cons_zero, List.set_cons_succ]
          refine wpAnyH_take (i := 8) (v := ?_) rfl (by kernel_rfl) (by kernel_rfl) (by kernel_rfl) (fun _ _ _ h => h) (Or.inl ⟨by rfl, ?_⟩) (by assumption) ?_
          rotate_left
          · (intro _ hSw; (try dsimp only at hSw); (first | (go_simp; done) | (go_simp; with_reducible rfl)))
          try simp only [Act.put, List.getElem_toArray, List.getElem_cons_zero, List.getElem_cons_succ, List.setIfInBounds_toArray, List.set_cons_zero, List.set_cons_succ]
          refine wpAnyH_take (i := 12) (v := ?_) rfl (by kernel_rfl) (by kernel_rfl) (by kernel_rfl) (fun _ _ _ h => h) (Or.inl ⟨by rfl, ?_⟩) (by assumption) ?_
          rotate_left
          · (intro _ hSw; (try dsimp only at hSw); (first | (go_simp; done) | (go_simp; with_reducible rfl)))
          try simp only [Act.put, List.getElem_toArray, List.getElem_cons_zero, List.getElem_cons_succ, List.setIfInBounds_toArray, List.set_cons_zero, List.set_cons_succ]
          refine wpAnyH_take (i := 3) (v := ?_) rfl (by kernel_rfl) (by kernel_rfl) (by kernel_rfl) (fun _ _ _ h => h) (Or.inl ⟨by rfl, ?_⟩) (by assumption) ?_
          rotate_left
          · (intro _ hSw; (try dsimp only at hSw); (first | (go_simp; done) | (go_simp; with_reducible rfl)))
          try simp only [Act.put, List.getElem_toArray, List.getElem_cons_zero, List.getElem_cons_succ, List.setIfInBounds_toArray, List.set_cons_zero, List.set_cons_succ]
          refine wpAnyH_take (i := 9) (v := ?_) rfl (by kernel_rfl) (by kernel_rfl) (by kernel_rfl) (fun _ _ _ h => h) (Or.inl ⟨by rfl, ?_⟩) (by assumption) ?_
          rotate_left
          · (intro _ hSw; (try dsimp only at hSw); (first | (go_simp; done) | (go_simp; with_reducible rfl)))
          try simp only [Act.put, List.getElem_toArray, List.getElem_cons_zero, List.getElem_cons_succ, List.setIfInBounds_toArray, List.set_cons_zero, List.set_cons_succ]
          refine wpAnyH_take (i := 4) (v := ?_) rfl (by kernel_rfl) (by kernel_rfl) (by kernel_rfl) (fun _ _ _ h => h) (Or.inl ⟨by rfl, ?_⟩) (by assumption) ?_
          rotate_left
          · (intro _ hSw; (try dsimp only at hSw); (first | (go_simp; done) | (go_simp; with_reducible rfl)))
          try simp only [Act.put, List.getElem_toArray, List.getElem_cons_zero, List.getElem_cons_succ, List.setIfInBounds_toArray, List.set_cons_zero, List.set_cons_succ]
          refine wpAnyH_take (i := 10) (v := ?_) rfl (by kernel_rfl) (by kernel_rfl) (by kernel_rfl) (fun _ _ _ h => h) (Or.inl ⟨by rfl, ?_⟩) (by assumption) ?_
          rotate_left
          · (intro _ hSw; (try dsimp only at hSw); (first | (go_simp; done) | (go_simp; with_reducible rfl)))
          try simp only [Act.put, List.getElem_toArray, List.getElem_cons_zero, List.getElem_cons_succ, List.setIfInBounds_toArray, List.set_cons_zero, List.set_cons_succ]
          refine wpAnyH_take (i := 11) (v := ?_) rfl (by kernel_rfl) (by kernel_rfl) (by kernel_rfl) (fun _ _ _ h => h) (Or.inl ⟨by rfl, ?_⟩) (by assumption) ?_
          rotate_left
          · (intro _ hSw; (try dsimp only at hSw); (first | (go_simp; done) | (go_simp; with_reducible rfl)))
          try simp only [Act.put, List.getElem_toArray, List.getElem_cons_zero, List.getElem_cons_succ, List.setIfInBounds_toArray, List.set_cons_zero, List.set_cons_succ]
          refine wpAnyH_ready (rs := [14]) (by kernel_rfl) (by simp) ?_
          refine AllReadyH.cons rfl (fun K hK => ?_) AllReadyH.nil
          go_simp
          refine (addRow_calls wc.heap.size x.1 _ bb _ st q (lim p x.1) f2 hql hxp (by omega) (by omega) (by omega) _ (by exact hr) (by exact Nat.lt_of_lt_of_le hbb hBl) (by omega) (by exact hQW)).mono ?_
          rintro e w2 ⟨rfl, hr2, hO2⟩
          have cX2 := cX.drew.off hO2 (by omega)
          have c12 := c1.drew.off hO2 (by omega)
          have cN2 := cN.drew.off hO2 (by omega)
          obtain ⟨e1, e2, e3⟩ := row_fine x.1 hql f2 hxp (List.range q.length)
          have kr2 := hr2.cell (i := x.1 + q.length) (by omega)
          have gr2 := hr2.frozen (x.1 + q.length)
          have E1 := Lib.hid e1
          clear e1
          refine hK.out _ _ ⟨cX2.cell, c12.cell⟩ (fun hHeld => ?_)
          clear hK K
          try simp only [Act.put, List.getElem_toArray, List.getElem_cons_zero, List.getElem_cons_succ, List.setIfInBounds_toArray, List.set_cons_zero, List.set_cons_succ]
          refine wpAnyH_take (i := 15) (v := ?_) rfl (by kernel_rfl) (by kernel_rfl) (by kernel_rfl) (fun _ _ _ h => h) (Or.inl ⟨by rfl, ?_⟩) (by assumption) ?_
          rotate_left
          · (intro _ hSw; (try dsimp only at hSw); (first | (go_simp; done) | (go_simp; with_reducible rfl)))
          try simp only [Act.put, List.getElem_toArray, List.getElem_cons_zero, List.getElem_cons_succ, List.setIfInBounds_toArray, List.set_cons_zero, List.set_cons_succ]
          refine wpAnyH_ready (rs := [16]) (by kernel_rfl) (by simp) ?_
          refine AllReadyH.cons rfl (fun K hK => ?_) AllReadyH.nil
          go_simp
          have nr := hr2.set (x.1 + q.length) (rowRun q (lim p x.1) x.1 st (List.range q.length)).2
          have n1 := c12.far (p := ⟨wc.heap.size, x.1 + q.length, none⟩) (by (try dsimp only); omega) (.int .u64 ((rowRun q (lim p x.1) x.1 st (List.range q.length)).2 : Int))
          have nX := cX2.far (p := ⟨wc.heap.size, x.1 + q.length, none⟩) (by (try dsimp only); omega) (.int .u64 ((rowRun q (lim p x.1) x.1 st (List.range q.length)).2 : Int))
          have nN := cN2.far (p := ⟨wc.heap.size, x.1 + q.length, none⟩) (by (try dsimp only); omega) (.int .u64 ((rowRun q (lim p x.1) x.1 st (List.range q.length)).2 : Int))
          have nB := (Off.to_below hB.drew hO2 hsz hBl).setCell (p := ⟨wc.heap.size, x.1 + q.length, none⟩) hsz (.int .u64 ((rowRun q (lim p x.1) x.1 st (List.range q.length)).2 : Int))
          refine hK.out _ _ ⟨nX.cell, n1.cell⟩ (fun hHeld => ?_)
          clear hK K
          try simp only [Act.put, List.getElem_toArray, List.getElem_cons_zero, List.getElem_cons_succ, List.setIfInBounds_toArray, List.set_cons_zero, List.set_cons_succ]
          refine wpAnyH_done (by kernel_rfl) ?_ _
          refine ⟨(((KeepsOthers.drew W).from _).trans (keepsFrom_off hr.drew hO2)).trans ((KeepsOthers.setCell _ _ _).from _), Keep.set ⟨hO2.block _ hcN (by omega), hO2.block _ (Nat.lt_of_lt_of_le hba hBl) (by omega)⟩ (by (try dsimp only); omega) (by (try dsimp only); omega) _, ⟨?_, n1, nX, nN⟩, nB⟩
          rw [hS.out]
          exact nr
        case done =>
          rintro D ys W hD hys ⟨⟨hr, c1, cX, cN⟩, hB⟩ hK
          simp only [World.size_alloc] at hD
          obtain ⟨f1, f2⟩ := mul_fine hpl hql (ys.map Subtype.val)
          have hall : Hid (cutz (mulRun p q (ys.map Subtype.val)) = digs 18446744073709551616 (val 18446744073709551616 p * val 18446744073709551616 q)) := Lib.hid (by rw [hys]; exact mul_all hpl hql)
          clear hys
          generalize mulRun p q (ys.map Subtype.val) = st at hr f1 f2 hall
          have hrd : RdAt wc.heap.size W (.slice (some ⟨wc.heap.size, 0, none⟩) (p.length + q.length) (p.length + q.length)) st := by
            have := hr.rd (p.length + q.length) (by omega)
            rwa [f1] at this
          have hlt := hr.lt
          have hsl : st.length ≤ 9223372036854775806 := by omega
          have F1 := Lib.hid f1
          clear f1
          have k1 := c1.cell
          gi_wp2_with (refine ⟨trivial, ?_⟩; gi_at_call 157; refine (callsIn_wide.2 (trim_calls wc.heap.size _ st hsl _ (by exact hlt) (by exact hrd))).mono ?_; rintro e w2 ⟨v', rfl, hr2, hb2⟩)
          have hD2 : D < W.heap.size := (Array.getElem?_eq_some_iff.1 hK).1
          have hK2 := (hb2.block D hD2).trans hK
          have hWD : wc.heap.size ≠ D := by omega
          refine ⟨by simp, .inl ⟨_, _, rfl, run_takeDeferred hK2, ?_⟩⟩
          refine ⟨_, results_tmp rfl _ _ _, v', rfl, ⟨wc.heap.size, ?_, ?_, .inr hsz⟩, ?_⟩
          · rw [HPX.out, HQY.out, ← hall.out]
            exact hr2.kept (World.putObj_heap_other hWD)
          · have := hb2.size; simp; omega
          · exact (hB.trans (hb2.mono hB.size)).trans (belowK_b (w := w) (Nat.le_refl _) w2 D _ _ (by omega) hK2 rfl rfl)
        case stop =>
          rintro D c pre W _ _ h _
          exact h.elim
theorem mul_calls (ba bb : Nat) (va vb : Value) (xs ys : List Nat) (hxy : xs.length + ys.length ≤ 17592186044416) (hx : Low 18446744073709551616 xs) (hy : Low 18446744073709551616 ys)
    (w : World) (hba : ba < w.heap.size) (hbb : bb < w.heap.size) (hA : RdAt ba w va xs) (hB : RdAt bb w vb ys) :
    Calls Try.prog 149 #[va, vb] w fun e W' => ∃ v, e = .returned v ∧ New w.heap.size W' v (digs 18446744073709551616 (val 18446744073709551616 xs * val 18446744073709551616 ys)) ∧ Below w.heap.size w W' :=
  callsIn_wide.1 (mul_in 8 (Nat.le_refl _) ba bb va vb xs ys hxy hx hy w hba hbb hA hB)
end Go.Proofs.Ytdcebkhdnhdejaa
