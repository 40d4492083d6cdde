/- nat.Cmp: how two naturals stand. -/
import Derived.Test.YtdcebkhdnhdejaaSmall
namespace Go.Proofs.Ytdcebkhdnhdejaa
open Go.RowKit Go.Shelf

attribute [local go_sem] Oper.semAt_some

set_option maxRecDepth 100000 in
set_option maxHeartbeats 2000000 in
theorem cmp_in (n : Nat) (hn : 6 ≤ n) (ba bb : Nat) (va vb : Value) (xs ys : List Nat) (hxl : xs.length ≤ 9223372036854775806) (hyl : ys.length ≤ 9223372036854775806) (hx : Low 18446744073709551616 xs) (hy : Low 18446744073709551616 ys)
    (w : World) (hba : ba < w.heap.size) (hbb : bb < w.heap.size) (hA : RdAt ba w va xs) (hB : RdAt bb w vb ys) :
    CallsIn Fence.wide n Try.prog 156 #[va, vb] w fun e W' => e = .returned (.int .i64 (cmpN (val 18446744073709551616 xs) (val 18446744073709551616 ys))) ∧ Below w.heap.size w W' := by
  rw [← val_cutz _ xs, ← val_cutz _ ys]
  have h1 : 1 ≤ n := by omega
  have hmx := follows
  obtain ⟨a, cap, hva, hcap, _⟩ := hA.slice
  obtain ⟨b, cbp, hvb, hcbp, _⟩ := hB.slice
  subst hva hvb
  refine callsIn_of_wp_marks Try.func156 rfl trivial ?_ rfl
  simp only [Try.ntmps156, List.size_toArray, List.length_cons, List.length_nil, Nat.reduceAdd, Nat.reduceSub, Array.replicate_succ, Array.replicate_zero, List.push_toArray, List.append_toArray, List.nil_append, List.cons_append]
  gi_wp2
  have bX := (Boxed.new w 22 (.slice b ys.length cbp)).alloc (.cells #[.int .i64 0] 3)
  have bR := Boxed.new (w.alloc (.cells #[.slice b ys.length cbp] 22)) 3 (.int .i64 0)
  have hB0 : Below w.heap.size w ((w.alloc (.cells #[.slice b ys.length cbp] 22)).alloc (.cells #[.int .i64 0] 3)) := ((Below.refl _ w).alloc (Nat.le_refl _) _).alloc (by simp) _
  simp only [World.size_alloc] at bR
  have hs1 : ((w.alloc (.cells #[.slice b ys.length cbp] 22)).alloc (.cells #[.int .i64 0] 3)).heap.size = w.heap.size + 2 := by simp
  generalize hW1 : ((w.alloc (.cells #[.slice b ys.length cbp] 22)).alloc (.cells #[.int .i64 0] 3)) = W1 at *
  clear hW1
  have hs1' : w.heap.size + 2 ≤ W1.heap.size := by omega
  clear hs1
  refine wpIn_calm ?_
  gi_cut [0] from 7 (fun s0 wc => ∃ vb', RdAt ba w s0 (cutz xs) ∧ RdAt bb w vb' (cutz ys) ∧ Boxed wc w.heap.size 22 vb' ∧ Boxed wc (w.heap.size + 1) 3 (.int .i64 0) ∧ Below w.heap.size w wc)
  case first =>
    have bX := bX.drew
    have bR := bR.drew
    have hcX := bX.cell
    have hfX := bX.frozen
    have hB0 := hB0.drew
    gi_region_with_o (refine ⟨trivial, ?_⟩; gi_at_call 157; refine (callsIn_wide.2 (trim_from (w0 := w) (by assumption) (by assumption) (by assumption) (by assumption))).mono ?_; rintro e w' ⟨a1, c1, rfl, hr1, hb1, hb2⟩; have bX := bX.behind hb1; have bR := bR.behind hb1; have hcX := bX.cell; have hfX := bX.frozen)
    all_goals gi_wp2_with fail
    all_goals gi_meet
    all_goals exact ⟨_, by assumption, hr1, bX.set _, bR.other (by omega) _, hb2.setCell (p := ⟨w.heap.size, 0, none⟩) (Nat.le_refl _) _⟩
  case rest =>
    obtain ⟨vb', hA', hB', bX', bR', hBc⟩ := hcut
    obtain ⟨a', cap', rfl, hcap', hsa⟩ := hA'.slice
    obtain ⟨b', cbp', rfl, hcbp', hsb⟩ := hB'.slice
    have hpc := cutz_cutz xs
    have hqc := cutz_cutz ys
    have hpl := cutz_low hx
    have hql := cutz_low hy
    have hpx : (cutz xs).length ≤ 9223372036854775806 := Nat.le_trans (cutz_length xs) hxl
    have hqx : (cutz ys).length ≤ 9223372036854775806 := Nat.le_trans (cutz_length ys) hyl
    generalize hpx' : cutz xs = p at *
    generalize hqy' : cutz ys = q at *
    have HPX := Lib.hid hpx'
    have HQY := Lib.hid hqy'
    clear bX bR hB0 hs1' hA hB hpx' hqy'
    have HPC := Lib.hid hpc
    have HQC := Lib.hid hqc
    clear hpc hqc
    have hcX := bX'.cell
    have hfX := bX'.frozen
    have hcR := bR'.cell
    have hfR := bR'.frozen
    by_cases hne : p.length = q.length
    · have hd : ((p.length : Int) != (q.length : Int)) = false := by simp [hne]
      have hd' : (p.length != q.length) = false := by simp [hne]
      have HN := Lib.hid hne
      have hle : q.length ≤ p.length ∧ p.length ≤ q.length := by omega
      clear hne
      gi_wp2_with (refine ⟨trivial, ?_⟩; gi_at_call 161; refine (down_in Fence.wide (n - 1) trivial rfl _ _ _ _).mono ?_; rintro e w' ⟨rfl, rfl⟩)
      have hlc := hBc.size
      have bX2 := bX'.alloc (.cells #[.slice a' p.length cap'] 22)
      have bR2 := bR'.alloc (.cells #[.slice a' p.length cap'] 22)
      have bN2 := Boxed.new wc 22 (.slice a' p.length cap')
      have hB2 := hBc.alloc hlc (.cells #[.slice a' p.length cap'] 22)
      have hA2 : RdAt ba (wc.alloc (.cells #[.slice a' p.length cap'] 22)) (.slice a' p.length cap') p := hA'.kept (hB2.block ba hba)
      have hbx := bX'.lt
      refine wpIn_rangeFunc_ownG rfl h1 (gf := 171) (lb := #[.pointer (some ⟨wc.heap.size, 0, none⟩)]) rfl trivial (enters_of Try.func171 (by kernel_rfl) rfl)
        (down_stops Fence.wide (n - 1) trivial rfl (by omega) wc.heap.size ba _ p (by omega) _ (by simp) (by simp; omega) bN2.cell hA2) Keep.trans (keep_put (by simp) (by simp; omega)) (Below.refl _ _) (fun _ => rfl)
        (fun pre W => ((∀ z ∈ pre, lim p z.1 = lim q z.1) ∧ Boxed W w.heap.size 22 (.slice b' q.length cbp') ∧ Boxed W (w.heap.size + 1) 3 (.int .i64 0)) ∧ Below w.heap.size w W)
        (fun c pre W => (c = .ret ∧ ∃ ini last, pre = ini ++ [last] ∧ (∀ z ∈ ini, lim p z.1 = lim q z.1) ∧ lim p last.1 ≠ lim q last.1 ∧ Boxed W (w.heap.size + 1) 3 (.int .i64 (cmpZ (lim p last.1) (lim q last.1)))) ∧ Below w.heap.size w W)
        (OwnFrom.and (OwnFrom.and (ownFrom_pure _ _) (OwnFrom.and (Own.from (boxed_own _ _ _) _) (Own.from (boxed_own _ _ _) _))) (ownFrom_below (Nat.le_refl _) (by simp; omega)))
        (fun c => OwnFrom.and (Own.from (fun s X Y row hs hg hr => by
          obtain ⟨hc, ini, last, e1, e2, e3, e4⟩ := hs
          exact ⟨hc, ini, last, e1, e2, e3, boxed_own (β := Unit) _ _ (fun _ => _) () X Y row e4 hg hr⟩) _) (ownFrom_below (Nat.le_refl _) (by simp; omega)))
        ⟨⟨by simp, bX2, bR2⟩, hB2⟩
        (fun x => { tmps := #[.slice a' p.length cap', .slice b ys.length cbp, undef, .pointer (some ⟨w.heap.size, 0, none⟩), .pointer (some ⟨w.heap.size + 1, 0, none⟩), .int .i64 (x.1 : Int), .int .u64 (lim p x.1 : Int), u7, u8, u9, u10,
          .slice a' p.length cap', .int .i64 p.length, .slice b' q.length cbp', .int .i64 q.length, .bool false, u16, u17, u18, u19, u20, .slice a' p.length cap', .func (.func 171) #[] #[.pointer (some ⟨wc.heap.size, 0, none⟩)], .int .i64 (x.1 : Int), .int .u64 (lim p x.1 : Int), u25, u26, u27, u28, u29, u30, u31, u32, u33, u34, u35, u36], defers := [] }) ?assign ?body ?done ?stop
      case assign =>
        intro l x W K hK
        gi_wp2
        exact hK
      case body =>
        rintro l pre x W ⟨⟨hp, bP', bR'⟩, hB⟩ _
        have hx := x.2
        have hd0 : 1 ≤ n - 1 - 1 := by omega
        obtain ⟨off, rfl⟩ := hsb (by omega)
        have hcP := bP'.cell
        have hcR := bR'.cell
        have hfR := bR'.frozen
        have hcq : W.cell? ⟨bb, off + x.1, none⟩ = some (.int .u64 (lim q x.1 : Int)) := (hB.cell (p := ⟨bb, off + x.1, none⟩) hbb).trans (hB'.cell (by omega))
        have hxq : x.1 < q.length := by omega
        by_cases h0 : lim p x.1 = lim q x.1
        · have hd : ((lim p x.1 : Int) != (lim q x.1 : Int)) = false := by simp [h0]
          have hd2 : (lim p x.1 != lim q x.1) = false := by simp [h0]
          have H0 := Lib.hid h0
          clear h0
          gi_wp2
          exact ⟨KeepsFrom.refl _ _, Keep.refl _ _ _, ⟨fun p hp' => (List.mem_append.1 hp').elim (hp p) (fun e => by simp at e; subst e; exact H0.out), bP', bR'⟩, hB⟩
        · have hd : ((lim p x.1 : Int) != (lim q x.1 : Int)) = true := by simp; omega
          have hd2 : (lim p x.1 != lim q x.1) = true := by simp [h0]
          have H0 := Lib.hid h0
          clear h0
          gi_wp2_with (refine ⟨trivial, ?_⟩; gi_at_call 169; refine (CallsIn.inRound l (callsIn_wide.2 (compareU64 _ _ _))).mono ?_; rintro e w' ⟨rfl, rfl⟩)
          exact ⟨(KeepsOthers.setCell _ _ _).from _, ⟨rfl, pre, x, rfl, hp, H0.out, bR'.set _⟩, hB.setCell (p := ⟨w.heap.size + 1, 0, none⟩) (by simp) _⟩
      case done =>
        rintro D ys W hD hys ⟨⟨hz, bP', bR'⟩, hB⟩ hK
        simp only [World.size_alloc] at hD
        have HY := Lib.hid hys
        have hcR := bR'.cell
        have hfR := bR'.frozen
        clear hys
        gi_wp2
        have hK' := (KeepsOthers.setCell W ⟨w.heap.size + 1, 0, none⟩ (.int .i64 0)).same D _ hK rfl
        have bR2 := (bR'.set (.int .i64 0)).kept (grownBy_putObj' _ D (.deferred none)) (by simp; omega)
        have hc5 := bR2.cell
        have hz' : p = q := lim_ext HN.out fun j hj => by
          obtain ⟨z, hz1, e⟩ := mem_of_map HY.out (dn_mem (n := p.length) (k := p.length) (j := j) (by omega) hj)
          rw [← e]; exact hz z hz1
        refine ⟨by simp, .inl ⟨_, _, rfl, run_takeDeferred hK', ?_⟩⟩
        refine ⟨.int .i64 0, ?_, ret_int (by rw [HPX.out, HQY.out, hz', cmpN_self]), (hB.setCell (p := ⟨w.heap.size + 1, 0, none⟩) (by simp) _).trans (belowK_b (w := w) (Nat.le_refl _) _ D _ _ (by omega) hK' rfl rfl)⟩
        simp [results, Try.f156, go_sem, hc5]
      case stop =>
        rintro D c pre W hD ⟨k, hk, hpre⟩ ⟨⟨rfl, ini, last, e1, e2, e3, bR'⟩, hB⟩ hK
        simp only [World.size_alloc] at hD
        subst e1
        have HY := Lib.hid hpre
        have H3 := Lib.hid e3
        have H2 := Lib.hid e2
        clear hpre e3 e2
        gi_wp2
        have bR2 := bR'.kept (grownBy_putObj' _ D (.deferred none)) (by simp; omega)
        have hc5 := bR2.cell
        obtain ⟨k', rfl, hlast, hini⟩ := dn_last HY.out hk
        have hx := last.2
        have hz' : ∀ j, last.1 < j → j < p.length → lim p j = lim q j := fun j hj hj' => by
          obtain ⟨z, hz1, e⟩ := mem_of_map hini (dn_mem (n := p.length) (k := k') (j := j) (by omega) hj')
          rw [← e]; exact H2.out z hz1
        refine ⟨by simp, .inl ⟨_, _, rfl, run_takeDeferred hK, ?_⟩⟩
        refine ⟨.int .i64 (cmpZ (lim p last.1) (lim q last.1)), ?_, ret_int ?_, hB.trans (belowK_b (w := w) (Nat.le_refl _) _ D _ (.deferred none) (by omega) hK rfl rfl)⟩
        · simp [results, Try.f156, go_sem, hc5]
        · rw [HPX.out, HQY.out, cmpZ_nat]
          rcases Nat.lt_or_ge (lim p last.1) (lim q last.1) with h | h
          · rw [cmpN_lt h, cmpN_lt (val_lt_at (by decide) hpl hql HN.out hx hz' h)]
          · have h' : lim q last.1 < lim p last.1 := by have := H3.out; omega
            rw [cmpN_gt h', cmpN_gt (val_lt_at (by decide) hql hpl HN.out.symm (by omega) (fun j h1 h2 => (hz' j h1 (by omega)).symm) h')]
    · have hd : ((p.length : Int) != (q.length : Int)) = true := by simp; omega
      have hd' : (p.length != q.length) = true := by simp; omega
      have HN := Lib.hid hne
      clear hne
      gi_wp2_with (refine ⟨trivial, ?_⟩; gi_at_call 168; refine (callsIn_wide.2 (compareInt _ _ _)).mono ?_; rintro e w' ⟨rfl, rfl⟩)
      have hc5 := (bR'.set (.int .i64 (cmpZ p.length q.length))).cell
      refine ⟨.int .i64 (cmpZ p.length q.length), ?_, ret_int ?_, hBc.setCell (p := ⟨w.heap.size + 1, 0, none⟩) (by simp) _⟩
      · simp [results, Try.f156, go_sem, hc5]
      · rw [HPX.out, HQY.out, cmpZ_nat]
        rcases Nat.lt_or_ge p.length q.length with h | h
        · rw [cmpN_lt h, cmpN_lt (low_length_lt (by decide) hpl HQC.out h)]
        · have h' : q.length < p.length := by have := HN.out; omega
          rw [cmpN_gt h', cmpN_gt (low_length_lt (by decide) hql HPC.out h')]
theorem cmp_calls (ba bb : Nat) (va vb : Value) (xs ys : List Nat) (hxl : xs.length ≤ 9223372036854775806) (hyl : ys.length ≤ 9223372036854775806) (hx : Low 18446744073709551616 xs) (hy : Low 18446744073709551616 ys)
    (w : World) (hba : ba < w.heap.size) (hbb : bb < w.heap.size) (hA : RdAt ba w va xs) (hB : RdAt bb w vb ys) :
    Calls Try.prog 156 #[va, vb] w fun e W' => e = .returned (.int .i64 (cmpN (val 18446744073709551616 xs) (val 18446744073709551616 ys))) ∧ Below w.heap.size w W' :=
  callsIn_wide.1 (cmp_in 6 (Nat.le_refl _) ba bb va vb xs ys hxl hyl hx hy w hba hbb hA hB)
end Go.Proofs.Ytdcebkhdnhdejaa
