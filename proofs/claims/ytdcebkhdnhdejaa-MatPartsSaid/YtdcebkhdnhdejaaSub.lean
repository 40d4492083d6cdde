/- nat.Sub: how far two naturals are apart. -/
import Derived.Test.YtdcebkhdnhdejaaNum
namespace Go.Proofs.Ytdcebkhdnhdejaa
open Go.RowKit Go.Shelf

attribute [local go_sem] Oper.semAt_some

set_option maxRecDepth 100000 in
set_option maxHeartbeats 2000000 in
theorem sub_in (n : Nat) (hn : 8 ≤ n) (ba bb : Nat) (va vb : Value) (xs ys : List Nat) (hxl : xs.length ≤ 17592186044416) (hyl : ys.length ≤ 17592186044416) (hx : Low 18446744073709551616 xs) (hy : Low 18446744073709551616 ys)
    (w : World) (hba : ba < w.heap.size) (hbb : bb < w.heap.size) (hA : RdAt ba w va xs) (hB : RdAt bb w vb ys) :
    CallsIn Fence.wide n Try.prog 148 #[va, vb] w fun e W' => ∃ v S, e = .returned v ∧ w.heap.size ≤ S ∧ S < W'.heap.size ∧ RdAt S W' v (digs 18446744073709551616 (dist (val 18446744073709551616 xs) (val 18446744073709551616 ys))) ∧ Below w.heap.size w W' := by
  have h1 : 1 ≤ n := by omega
  have hmx := follows
  have hxl' : xs.length ≤ 9223372036854775806 := by omega
  have hyl' : ys.length ≤ 9223372036854775806 := by omega
  obtain ⟨a, cap, hva, hcap, _⟩ := hA.slice
  obtain ⟨b, cbp, hvb, hcbp, _⟩ := hB.slice
  subst hva hvb
  refine callsIn_of_wp_marks Try.func148 rfl trivial ?_ rfl
  simp only [Try.ntmps148, List.size_toArray, List.length_cons, List.length_nil, Nat.reduceAdd, Nat.reduceSub, Array.replicate_succ, Array.replicate_zero, List.push_toArray, List.append_toArray, List.nil_append, List.cons_append]
  gi_wp2
  have bX := Boxed.new w 22 (.slice b ys.length cbp)
  have hB0 : Below w.heap.size w (w.alloc (.cells #[.slice b ys.length cbp] 22)) := (Below.refl _ w).alloc (Nat.le_refl _) _
  generalize hW1 : (w.alloc (.cells #[.slice b ys.length cbp] 22)) = W1 at *
  clear hW1
  refine wpIn_calm ?_
  gi_cut [0] from 9 (fun s0 wc => ∃ vb', RdAt ba w s0 (cutz xs) ∧ RdAt bb w vb' (cutz ys) ∧ Boxed wc w.heap.size 22 vb' ∧ Below w.heap.size w wc)
  case first =>
    have bX := bX.drew
    have hcX := bX.cell
    have hfX := bX.frozen
    have hB0 := hB0.drew
    gi_region_with_o (refine ⟨trivial, ?_⟩; gi_at_call 157; refine (callsIn_wide.2 (trim_from (w0 := w) (by assumption) (by assumption) (by assumption) (by assumption))).mono ?_; rintro e w' ⟨a1, c1, rfl, hr1, hb1, hb2⟩; have bX := bX.behind hb1; have hcX := bX.cell; have hfX := bX.frozen)
    all_goals gi_wp2_with fail
    all_goals gi_meet
    all_goals exact ⟨_, by assumption, hr1, bX.set _, hb2.setCell (p := ⟨w.heap.size, 0, none⟩) (Nat.le_refl _) _⟩
  case rest =>
    obtain ⟨vb', hA', hB', bX', hBc⟩ := hcut
    obtain ⟨a', cap', rfl, hcap', hsa⟩ := hA'.slice
    obtain ⟨b', cbp', rfl, hcbp', hsb⟩ := hB'.slice
    have hpc := cutz_cutz xs
    have hqc := cutz_cutz ys
    have hpl := cutz_low hx
    have hql := cutz_low hy
    have hpx : (cutz xs).length ≤ 17592186044416 := Nat.le_trans (cutz_length xs) hxl
    have hqx : (cutz ys).length ≤ 17592186044416 := Nat.le_trans (cutz_length ys) hyl
    have hpv := val_cutz 18446744073709551616 xs
    have hqv := val_cutz 18446744073709551616 ys
    generalize cutz xs = p at *
    generalize cutz ys = q at *
    have HPC := Lib.hid hpc
    have HQC := Lib.hid hqc
    have HPV := Lib.hid hpv
    have HQV := Lib.hid hqv
    clear bX hB0 hA hB hpc hqc hpv hqv
    have hcX := bX'.cell
    have hfX := bX'.frozen
    have hsz := hBc.size
    gi_upto_if 16 with (refine ⟨trivial, ?_⟩; gi_at_call 156; refine (callsIn_wide.2 (cmp_calls ba bb _ _ p q (by omega) (by omega) hpl hql _ (by omega) (by omega) (hA'.kept (hBc.block ba hba)) (hB'.kept (hBc.block bb hbb)))).mono ?_; rintro e w2 ⟨rfl, hb2⟩; have bX2 := bX'.behind hb2; have hcX2 := bX2.cell; have hfX2 := bX2.frozen)
    have hB2 : Below w.heap.size w w2 := hBc.trans (hb2.mono hsz)
    gi_cut [0] from 9 (fun s0 wd => ∃ bP bQ P Q vq, RdAt bP w s0 P ∧ RdAt bQ w vq Q ∧ Boxed wd w.heap.size 22 vq ∧ Below w.heap.size w wd ∧ bP < w.heap.size ∧ bQ < w.heap.size ∧ Low 18446744073709551616 P ∧ Low 18446744073709551616 Q ∧ Q.length ≤ P.length ∧ P.length ≤ 17592186044416 ∧ val 18446744073709551616 Q ≤ val 18446744073709551616 P ∧ val 18446744073709551616 P - val 18446744073709551616 Q = dist (val 18446744073709551616 xs) (val 18446744073709551616 ys))
    case first =>
      by_cases hlt : val 18446744073709551616 p < val 18446744073709551616 q
      · have hd : cmpN (val 18446744073709551616 p) (val 18446744073709551616 q) < 0 := by rw [cmpN_lt hlt]; decide
        gi_wp2
        gi_meet
        exact ⟨bb, ba, q, p, _, hB', hA', bX2.set _, hB2.setCell (p := ⟨w.heap.size, 0, none⟩) (Nat.le_refl _) _, hbb, hba, hql, hpl, low_length_le (by decide) hql HPC.out (by omega), hqx, by omega, by rw [← HPV.out, ← HQV.out, dist_comm, dist_ge (by omega)]⟩
      · have hd : 0 ≤ cmpN (val 18446744073709551616 p) (val 18446744073709551616 q) := by unfold cmpN; rw [if_neg hlt]; split <;> decide
        gi_wp2
        gi_meet
        exact ⟨ba, bb, p, q, _, hA', hB', bX2, hB2, hba, hbb, hpl, hql, low_length_le (by decide) hpl HQC.out (by omega), hpx, by omega, by rw [← HPV.out, ← HQV.out, dist_ge (by omega)]⟩
    case rest =>
      clear bX' bX2 hcX hfX hcX2 hfX2 hB2 hb2 hA' hB' hBc hsz hsa hsb
      obtain ⟨bP, bQ, P, Q, vq, hA', hB', bX', hBc, hbP, hbQ, hPl, hQl, hQP, hPx, hv, hdist⟩ := hcut
      obtain ⟨aP, capP, rfl, hcapP, hsP⟩ := hA'.slice
      obtain ⟨aQ, capQ, rfl, hcapQ, hsQ⟩ := hB'.slice
      have HD := Lib.hid hdist
      clear hdist
      have hmk := make_u64 P.length (by omega)
      gi_wp2_with (refine ⟨trivial, ?_⟩; gi_at_call 158; refine (up_in Fence.wide (n - 1) trivial rfl _ _ _ _).mono ?_; rintro e w' ⟨rfl, rfl⟩)
      have hsz := hBc.size
      have hbx := bX'.lt
      have r0 := (((Row.new wc .u64 32 (List.replicate P.length 0)).alloc (.cells #[.slice (some ⟨wc.heap.size, 0, none⟩) P.length P.length] 22)).alloc (.cells #[.int .u64 0] 32)).alloc (.cells #[.slice aP P.length capP] 22)
      have b1 := ((Boxed.new (wc.alloc (.cells (cellsOf .u64 (List.replicate P.length 0)) 32)) 22 (.slice (some ⟨wc.heap.size, 0, none⟩) P.length P.length)).alloc (.cells #[.int .u64 0] 32)).alloc (.cells #[.slice aP P.length capP] 22)
      have b2 := (Boxed.new ((wc.alloc (.cells (cellsOf .u64 (List.replicate P.length 0)) 32)).alloc (.cells #[.slice (some ⟨wc.heap.size, 0, none⟩) P.length P.length] 22)) 32 (.int .u64 0)).alloc (.cells #[.slice aP P.length capP] 22)
      have b3 := Boxed.new (((wc.alloc (.cells (cellsOf .u64 (List.replicate P.length 0)) 32)).alloc (.cells #[.slice (some ⟨wc.heap.size, 0, none⟩) P.length P.length] 22)).alloc (.cells #[.int .u64 0] 32)) 22 (.slice aP P.length capP)
      have bX4 := (((bX'.alloc (.cells (cellsOf .u64 (List.replicate P.length 0)) 32)).alloc (.cells #[.slice (some ⟨wc.heap.size, 0, none⟩) P.length P.length] 22)).alloc (.cells #[.int .u64 0] 32)).alloc (.cells #[.slice aP P.length capP] 22)
      have hB4 := (((hBc.alloc hsz (.cells (cellsOf .u64 (List.replicate P.length 0)) 32)).alloc (by simp; omega) (.cells #[.slice (some ⟨wc.heap.size, 0, none⟩) P.length P.length] 22)).alloc (by simp; omega) (.cells #[.int .u64 0] 32)).alloc (by simp; omega) (.cells #[.slice aP P.length capP] 22)
      have hA4 : RdAt bP _ (.slice aP P.length capP) P := hA'.kept (hB4.block bP hbP)
      simp only [World.size_alloc] at r0 b1 b2 b3
      refine wpIn_rangeFunc_ownG rfl h1 (gf := 170) (lb := #[.pointer (some ⟨wc.heap.size + 1 + 1 + 1, 0, none⟩)]) rfl trivial (enters_of Try.func170 (by kernel_rfl) rfl)
        (up_stops Fence.wide (n - 1) trivial rfl (by omega) (wc.heap.size + 1 + 1 + 1) bP _ P (by omega) _ (by simp) (by simp; omega) b3.cell hA4) Keep.trans (keep_put (by simp) (by simp; omega)) (Below.refl _ _) (fun _ => rfl)
        (fun pre W => (Row .u64 32 W wc.heap.size (runL (subStep P Q) P.length (pre.map Subtype.val)).1 ∧ Boxed W (wc.heap.size + 1) 22 (.slice (some ⟨wc.heap.size, 0, none⟩) P.length P.length) ∧
          Boxed W (wc.heap.size + 1 + 1) 32 (.int .u64 ((runL (subStep P Q) P.length (pre.map Subtype.val)).2 : Int)) ∧ Boxed W w.heap.size 22 (.slice aQ Q.length capQ)) ∧ Below w.heap.size w W)
        (fun _ _ _ => False)
        (OwnFrom.and (OwnFrom.and (Own.from (row_own _ _ _ _) _) (OwnFrom.and (Own.from (boxed_own _ _ _) _) (OwnFrom.and (Own.from (boxed_own _ _ _) _) (Own.from (boxed_own _ _ _) _)))) (ownFrom_below (Nat.le_refl _) (by simp; omega)))
        (fun _ _ _ _ _ hs _ _ => hs)
        ⟨⟨r0, b1, b2, bX4⟩, hB4⟩
        ?a1 ?assign ?body ?done ?stop
      case assign =>
        intro l x W K hK
        gi_wp2
        exact hK
      case body =>
        rintro l pre x W ⟨⟨hr, c1, c2, cX⟩, hB⟩ _
        have hx := x.2
        have hd0 : 1 ≤ n - 1 - 1 := by omega
        have hS : Hid (runL (subStep P Q) P.length ((pre ++ [x]).map Subtype.val) = subStep P Q (runL (subStep P Q) P.length (pre.map Subtype.val)) x.1) := Lib.hid (by rw [List.map_append]; exact runL_snoc _ _ _ _)
        obtain ⟨f1, f2, f3⟩ := sub_fine P Q P.length (pre.map Subtype.val)
        generalize hst : runL (subStep P Q) P.length (pre.map Subtype.val) = st at hr c1 c2 cX hS f1 f2 f3
        have HST := Lib.hid hst
        clear hst
        have k1 := c1.cell
        have k2 := c2.cell
        have g2 := c2.frozen
        have kX := cX.cell
        have kr := hr.cell (i := x.1) (by omega)
        have gr := hr.frozen x.1
        have hQW : RdAt bQ W (.slice aQ Q.length capQ) Q := hB'.kept (hB.block bQ hbQ)
        have h64 := sub64_run (lim P x.1) (lim Q x.1) st.2 f2
        have hfn : Fence.wide.fn 140 := trivial
        have F1 := Lib.hid f1
        clear f1
        have nr := hr.set x.1 (sub64 (lim P x.1) (lim Q x.1) st.2)
        have n1 := c1.far (p := ⟨wc.heap.size, x.1, none⟩) (by (try dsimp only); omega) (.int .u64 (sub64 (lim P x.1) (lim Q x.1) st.2 : Int))
        have n2 := c2.far (p := ⟨wc.heap.size, x.1, none⟩) (by (try dsimp only); omega) (.int .u64 (sub64 (lim P x.1) (lim Q x.1) st.2 : Int))
        have nX := cX.far (p := ⟨wc.heap.size, x.1, none⟩) (by (try dsimp only); omega) (.int .u64 (sub64 (lim P x.1) (lim Q x.1) st.2 : Int))
        have kn := n2.cell
        have gn := n2.frozen
        have mr := nr.far (p := ⟨wc.heap.size + 1 + 1, 0, none⟩) (by (try dsimp only); omega) (.int .u64 (borrow64 (lim P x.1) (lim Q x.1) st.2 : Int))
        have m1 := n1.far (p := ⟨wc.heap.size + 1 + 1, 0, none⟩) (by (try dsimp only); omega) (.int .u64 (borrow64 (lim P x.1) (lim Q x.1) st.2 : Int))
        have m2 := n2.set (.int .u64 (borrow64 (lim P x.1) (lim Q x.1) st.2 : Int))
        have mX := nX.far (p := ⟨wc.heap.size + 1 + 1, 0, none⟩) (by (try dsimp only); omega) (.int .u64 (borrow64 (lim P x.1) (lim Q x.1) st.2 : Int))
        have mB := (hB.setCell (p := ⟨wc.heap.size, x.1, none⟩) hsz (.int .u64 (sub64 (lim P x.1) (lim Q x.1) st.2 : Int))).setCell (p := ⟨wc.heap.size + 1 + 1, 0, none⟩) (by simp; omega) (.int .u64 (borrow64 (lim P x.1) (lim Q x.1) st.2 : Int))
        gi_wp2
        refine region_round hmx (by kernel_rfl) (by rintro ⟨_, _, h⟩; exact h) (fun u => u.cell? ⟨w.heap.size, 0, none⟩ = some (.slice aQ Q.length capQ) ∧ u.cell? ⟨wc.heap.size + 1, 0, none⟩ = some (.slice (some ⟨wc.heap.size, 0, none⟩) P.length P.length)) ⟨kX, k1⟩ (fun hHeld => ?_)
        refine wpAnyH_take (i := 1) (v := ?_) rfl (by kernel_rfl) (by kernel_rfl) (by kernel_rfl) (fun _ _ _ h => h) (Or.inl ⟨by rfl, ?_⟩) (by assumption) ?_
        rotate_left
        · (intro _ hSw; (try dsimp only at hSw); (first | (go_simp; done) | (go_simp; with_reducible rfl)))
        try simp only [Act.put, List.getElem_toArray, List.getElem_cons_zero, List.getElem_cons_succ, List.setIfInBounds_toArray, List.set_cons_zero, List.set_cons_succ]
        refine wpAnyH_take (i := 2) (v := ?_) rfl (by kernel_rfl) (by kernel_rfl) (by kernel_rfl) (fun _ _ _ h => h) (Or.inl ⟨by rfl, ?_⟩) (by assumption) ?_
        rotate_left
        · (intro _ hSw; (try dsimp only at hSw); (first | (go_simp; done) | (go_simp; with_reducible rfl)))
        try simp only [Act.put, List.getElem_toArray, List.getElem_cons_zero, List.getElem_cons_succ, List.setIfInBounds_toArray, List.set_cons_zero, List.set_cons_succ]
        refine wpAnyH_take (i := 4) (v := ?_) rfl (by kernel_rfl) (by kernel_rfl) (by kernel_rfl) (fun _ _ _ h => h) (Or.inl ⟨by rfl, ?_⟩) (by assumption) ?_
        rotate_left
        · (intro _ hSw; (try dsimp only at hSw); (first | (go_simp; done) | (go_simp; with_reducible rfl)))
        try simp only [Act.put, List.getElem_toArray, List.getElem_cons_zero, List.getElem_cons_succ, List.setIfInBounds_toArray, List.set_cons_zero, List.set_cons_succ]
        refine wpAnyH_take (i := 0) (v := ?_) rfl (by kernel_rfl) (by kernel_rfl) (by kernel_rfl) (fun _ _ _ h => h) (Or.inl ⟨by rfl, ?_⟩) (by assumption) ?_
        rotate_left
        · (intro _ hSw; (try dsimp only at hSw); (first | (go_simp; done) | (go_simp; with_reducible rfl)))
        try simp only [Act.put, List.getElem_toArray, List.getElem_cons_zero, List.setIfInBounds_toArray, List.set_cons_zero, List.set_cons_succ]
        refine wpAnyH_take (i := 3) (v := ?_) rfl (by kernel_rfl) (by kernel_rfl) (by kernel_rfl) (fun _ _ _ h => h) (Or.inl ⟨by rfl, ?_⟩) (by assumption) ?_
        rotate_left
        · (intro _ hSw; (try dsimp only at hSw); (first | (go_simp; done) | (go_simp; with_reducible rfl)))
        try simp only [Act.put, List.getElem_toArray, List.getElem_cons_zero, List.getElem_cons_succ, List.setIfInBounds_toArray, List.set_cons_zero, List.set_cons_succ]
        refine wpAnyH_ready (rs := [5, 6]) (by kernel_rfl) (by simp) ?_
        refine AllReadyH.cons rfl (fun K hK => ?_) (AllReadyH.cons rfl (fun K hK => ?_) AllReadyH.nil)
        · skip
          go_simp
          refine (limb_calls _ Q bQ x.1 _ (by exact hQW)).mono ?_
          rintro e w' ⟨rfl, rfl⟩
          refine hK.out _ _ hHeld (fun hHeld => ?_)
          clear hK K
          try simp only [Act.put, List.getElem_toArray, List.getElem_cons_zero, List.getElem_cons_succ, List.setIfInBounds_toArray, List.set_cons_zero, List.set_cons_succ]
          refine wpAnyH_ready (rs := [6]) (by kernel_rfl) (by simp) ?_
          refine AllReadyH.cons rfl (fun K hK => ?_) AllReadyH.nil
          go_simp
          refine hK.out _ _ hHeld (fun hHeld => ?_)
          clear hK K
          try simp only [Act.put, List.getElem_toArray, List.getElem_cons_zero, List.getElem_cons_succ, List.setIfInBounds_toArray, List.set_cons_zero, List.set_cons_succ]
          refine wpAnyH_ready (rs := [7]) (by kernel_rfl) (by simp) ?_
          refine AllReadyH.cons rfl (fun K hK => ?_) AllReadyH.nil
          go_simp
          refine hK.out _ _ hHeld (fun hHeld => ?_)
          clear hK K
          try simp only [Act.put, List.getElem_toArray, List.getElem_cons_zero, List.getElem_cons_succ, List.setIfInBounds_toArray, List.set_cons_zero, List.set_cons_succ]
          refine wpAnyH_take (i := 8) (v := ?_) rfl (by kernel_rfl) (by kernel_rfl) (by kernel_rfl) (fun _ _ _ h => h) (Or.inl ⟨by rfl, ?_⟩) (by assumption) ?_
          rotate_left
          · (intro _ hSw; (try dsimp only at hSw); (first | (go_simp; done) | (go_simp; with_reducible rfl)))
          try simp only [Act.put, List.getElem_toArray, List.getElem_cons_zero, List.getElem_cons_succ, List.setIfInBounds_toArray, List.set_cons_zero, List.set_cons_succ]
          refine wpAnyH_take (i := 9) (v := ?_) rfl (by kernel_rfl) (by kernel_rfl) (by kernel_rfl) (fun _ _ _ h => h) (Or.inl ⟨by rfl, ?_⟩) (by assumption) ?_
          rotate_left
          · (intro _ hSw; (try dsimp only at hSw); (first | (go_simp; done) | (go_simp; with_reducible rfl)))
          try simp only [Act.put, List.getElem_toArray, List.getElem_cons_zero, List.getElem_cons_succ, List.setIfInBounds_toArray, List.set_cons_zero, List.set_cons_succ]
          refine wpAnyH_take (i := 10) (v := ?_) rfl (by kernel_rfl) (by kernel_rfl) (by kernel_rfl) (fun _ _ _ h => h) (Or.inl ⟨by rfl, ?_⟩) (by assumption) ?_
          rotate_left
          · (intro _ hSw; (try dsimp only at hSw); (first | (go_simp; done) | (go_simp; with_reducible rfl)))
          try simp only [Act.put, List.getElem_toArray, List.getElem_cons_zero, List.getElem_cons_succ, List.setIfInBounds_toArray, List.set_cons_zero, List.set_cons_succ]
          refine wpAnyH_take (i := 11) (v := ?_) rfl (by kernel_rfl) (by kernel_rfl) (by kernel_rfl) (fun _ _ _ h => h) (Or.inl ⟨by rfl, ?_⟩) (by assumption) ?_
          rotate_left
          · (intro _ hSw; (try dsimp only at hSw); (first | (go_simp; done) | (go_simp; with_reducible rfl)))
          try simp only [Act.put, List.getElem_toArray, List.getElem_cons_zero, List.getElem_cons_succ, List.setIfInBounds_toArray, List.set_cons_zero, List.set_cons_succ]
          refine wpAnyH_ready (rs := [12]) (by kernel_rfl) (by simp) ?_
          refine AllReadyH.cons rfl (fun K hK => ?_) AllReadyH.nil
          go_simp
          refine hK.out _ _ ⟨nX.cell, n1.cell⟩ (fun hHeld => ?_)
          clear hK K
          try simp only [Act.put, List.getElem_toArray, List.getElem_cons_zero, List.getElem_cons_succ, List.setIfInBounds_toArray, List.set_cons_zero, List.set_cons_succ]
          refine wpAnyH_ready (rs := [13]) (by kernel_rfl) (by simp) ?_
          refine AllReadyH.cons rfl (fun K hK => ?_) AllReadyH.nil
          go_simp
          refine hK.out _ _ ⟨mX.cell, m1.cell⟩ (fun hHeld => ?_)
          clear hK K
          try simp only [Act.put, List.getElem_toArray, List.getElem_cons_zero, List.getElem_cons_succ, List.setIfInBounds_toArray, List.set_cons_zero, List.set_cons_succ]
          refine wpAnyH_done (by kernel_rfl) ?_ _
          exact ⟨(((KeepsOthers.setCell _ _ _).trans (KeepsOthers.setCell _ _ _)).trans (KeepsOthers.drew _)).from _, (((Keep.refl _ _ _).set (by simp; omega) (by simp; omega) _).set (by simp) (by simp; omega) _).drew, ⟨by rw [hS.out]; exact mr, m1, by rw [hS.out]; exact m2, mX⟩, mB.drew⟩
        · skip
          go_simp
          refine hK.out _ _ hHeld (fun hHeld => ?_)
          clear hK K
          try simp only [Act.put, List.getElem_toArray, List.getElem_cons_zero, List.getElem_cons_succ, List.setIfInBounds_toArray, List.set_cons_zero, List.set_cons_succ]
          refine wpAnyH_ready (rs := [5]) (by kernel_rfl) (by simp) ?_
          refine AllReadyH.cons rfl (fun K hK => ?_) AllReadyH.nil
          go_simp
          refine (limb_calls _ Q bQ x.1 _ (by exact hQW)).mono ?_
          rintro e w' ⟨rfl, rfl⟩
          refine hK.out _ _ hHeld (fun hHeld => ?_)
          clear hK K
          try simp only [Act.put, List.getElem_toArray, List.getElem_cons_zero, List.getElem_cons_succ, List.setIfInBounds_toArray, List.set_cons_zero, List.set_cons_succ]
          refine wpAnyH_ready (rs := [7]) (by kernel_rfl) (by simp) ?_
          refine AllReadyH.cons rfl (fun K hK => ?_) AllReadyH.nil
          go_simp
          refine hK.out _ _ hHeld (fun hHeld => ?_)
          clear hK K
          try simp only [Act.put, List.getElem_toArray, List.getElem_cons_zero, List.getElem_cons_succ, List.setIfInBounds_toArray, List.set_cons_zero, List.set_cons_succ]
          refine wpAnyH_take (i := 8) (v := ?_) rfl (by kernel_rfl) (by kernel_rfl) (by kernel_rfl) (fun _ _ _ h => h) (Or.inl ⟨by rfl, ?_⟩) (by assumption) ?_
          rotate_left
          · (intro _ hSw; (try dsimp only at hSw); (first | (go_simp; done) | (go_simp; with_reducible rfl)))
          try simp only [Act.put, List.getElem_toArray, List.getElem_cons_zero, List.getElem_cons_succ, List.setIfInBounds_toArray, List.set_cons_zero, List.set_cons_succ]
          refine wpAnyH_take (i := 9) (v := ?_) rfl (by kernel_rfl) (by kernel_rfl) (by kernel_rfl) (fun _ _ _ h => h) (Or.inl ⟨by rfl, ?_⟩) (by assumption) ?_
          rotate_left
          · (intro _ hSw; (try dsimp only at hSw); (first | (go_simp; done) | (go_simp; with_reducible rfl)))
          try simp only [Act.put, List.getElem_toArray, List.getElem_cons_zero, List.getElem_cons_succ, List.setIfInBounds_toArray, List.set_cons_zero, List.set_cons_succ]
          refine wpAnyH_take (i := 10) (v := ?_) rfl (by kernel_rfl) (by kernel_rfl) (by kernel_rfl) (fun _ _ _ h => h) (Or.inl ⟨by rfl, ?_⟩) (by assumption) ?_
          rotate_left
          · (intro _ hSw; (try dsimp only at hSw); (first | (go_simp; done) | (go_simp; with_reducible rfl)))
          try simp only [Act.put, List.getElem_toArray, List.getElem_cons_zero, List.getElem_cons_succ, List.setIfInBounds_toArray, List.set_cons_zero, List.set_cons_succ]
          refine wpAnyH_take (i := 11) (v := ?_) rfl (by kernel_rfl) (by kernel_rfl) (by kernel_rfl) (fun _ _ _ h => h) (Or.inl ⟨by rfl, ?_⟩) (by assumption) ?_
          rotate_left
          · (intro _ hSw; (try dsimp only at hSw); (first | (go_simp; done) | (go_simp; with_reducible rfl)))
          try simp only [Act.put, List.getElem_toArray, List.getElem_cons_zero, List.getElem_cons_succ, List.setIfInBounds_toArray, List.set_cons_zero, List.set_cons_succ]
          refine wpAnyH_ready (rs := [12]) (by kernel_rfl) (by simp) ?_
          refine AllReadyH.cons rfl (fun K hK => ?_) AllReadyH.nil
          go_simp
          refine hK.out _ _ ⟨nX.cell, n1.cell⟩ (fun hHeld => ?_)
          clear hK K
          try simp only [Act.put, List.getElem_toArray, List.getElem_cons_zero, List.getElem_cons_succ, List.setIfInBounds_toArray, List.set_cons_zero, List.set_cons_succ]
          refine wpAnyH_ready (rs := [13]) (by kernel_rfl) (by simp) ?_
          refine AllReadyH.cons rfl (fun K hK => ?_) AllReadyH.nil
          go_simp
          refine hK.out _ _ ⟨mX.cell, m1.cell⟩ (fun hHeld => ?_)
          clear hK K
          try simp only [Act.put, List.getElem_toArray, List.getElem_cons_zero, List.getElem_cons_succ, List.setIfInBounds_toArray, List.set_cons_zero, List.set_cons_succ]
          refine wpAnyH_done (by kernel_rfl) ?_ _
          exact ⟨(((KeepsOthers.setCell _ _ _).trans (KeepsOthers.setCell _ _ _)).trans (KeepsOthers.drew _)).from _, (((Keep.refl _ _ _).set (by simp; omega) (by simp; omega) _).set (by simp) (by simp; omega) _).drew, ⟨by rw [hS.out]; exact mr, m1, by rw [hS.out]; exact m2, mX⟩, mB.drew⟩
      case done =>
        rintro D ys W hD hys ⟨⟨hr, c1, c2, cX⟩, hB⟩ hK
        simp only [World.size_alloc] at hD
        obtain ⟨f1, f2, f3⟩ := sub_fine P Q P.length (ys.map Subtype.val)
        have hall : Hid (cutz (runL (subStep P Q) P.length (ys.map Subtype.val)).1 = digs 18446744073709551616 (val 18446744073709551616 P - val 18446744073709551616 Q)) := Lib.hid (by rw [hys]; exact sub_all hPl hQl hQP hv)
        clear hys
        generalize runL (subStep P Q) P.length (ys.map Subtype.val) = st at hr c1 c2 cX f1 f2 f3 hall
        have hrd : RdAt wc.heap.size W (.slice (some ⟨wc.heap.size, 0, none⟩) P.length P.length) st.1 := by
          have := hr.rd P.length (by omega)
          rwa [f1] at this
        have hlt := hr.lt
        have hsl : st.1.length ≤ 9223372036854775806 := by omega
        have F1 := Lib.hid f1
        clear f1
        have k1 := c1.cell
        gi_wp2_with (refine ⟨trivial, ?_⟩; gi_at_call 157; refine (callsIn_wide.2 (trim_calls wc.heap.size _ st.1 hsl _ (by exact hlt) (by exact hrd))).mono ?_; rintro e w2 ⟨v', rfl, hr2, hb2⟩)
        have hD2 : D < W.heap.size := (Array.getElem?_eq_some_iff.1 hK).1
        have hK2 := (hb2.block D hD2).trans hK
        refine ⟨by simp, .inl ⟨_, _, rfl, run_takeDeferred hK2, ?_⟩⟩
        refine ⟨_, results_tmp rfl _ _ _, v', wc.heap.size, rfl, hsz, ?_, ?_, ?_⟩
        · have := hb2.size; simp; omega
        · rw [← HD.out, ← hall.out]
          exact hr2.kept (World.putObj_heap_other (by omega))
        · exact (hB.trans (hb2.mono hB.size)).trans (belowK_b (w := w) (Nat.le_refl _) w2 D _ _ (by omega) hK2 rfl rfl)
      case stop =>
        rintro D c pre W _ _ h _
        exact h.elim
theorem sub_calls (ba bb : Nat) (va vb : Value) (xs ys : List Nat) (hxl : xs.length ≤ 17592186044416) (hyl : ys.length ≤ 17592186044416) (hx : Low 18446744073709551616 xs) (hy : Low 18446744073709551616 ys)
    (w : World) (hba : ba < w.heap.size) (hbb : bb < w.heap.size) (hA : RdAt ba w va xs) (hB : RdAt bb w vb ys) :
    Calls Try.prog 148 #[va, vb] w fun e W' => ∃ v S, e = .returned v ∧ w.heap.size ≤ S ∧ S < W'.heap.size ∧ RdAt S W' v (digs 18446744073709551616 (dist (val 18446744073709551616 xs) (val 18446744073709551616 ys))) ∧ Below w.heap.size w W' :=
  callsIn_wide.1 (sub_in 8 (Nat.le_refl _) ba bb va vb xs ys hxl hyl hx hy w hba hbb hA hB)
end Go.Proofs.Ytdcebkhdnhdejaa
