/- natdiv.raiseWide: a number times a power of two, with a word more. -/
import Derived.Test.YtdcebkhdnhdejaaState
import Derived.IntWalk
namespace Go.Proofs.Ytdcebkhdnhdejaa
open Go.RowKit Go.Shelf

attribute [local go_sem] Oper.semAt_some

set_option maxRecDepth 100000 in
set_option maxHeartbeats 4000000 in
theorem raiseWide_in (n : Nat) (hn : 6 ≤ n) (b : Nat) (v : Value) (xs : List Nat) (m wh p : Nat) (hreach : xs.length ≤ 4398046511104) (hm : m ≤ 281474976710656) (hlow : Low 18446744073709551616 xs) (hq : ((m : Int) / 64) = (wh : Int)) (hr : ((m : Int) % 64) = (p : Int)) (w : World) (hb : b < w.heap.size) (hI : RdAt b w v xs) :
    CallsIn Fence.wide n Try.prog 163 #[v, .int .i64 (m : Int)] w fun e W' => e = .returned (.slice (some ⟨w.heap.size + 1 + 1, 0, none⟩) (xs.length + wh + 1) (xs.length + wh + 1)) ∧ Row .u64 32 W' (w.heap.size + 1 + 1) (rwS xs wh p xs.length) ∧ Below w.heap.size w W' := by
  obtain ⟨a, cap, rfl, hcap, hsome⟩ := hI.slice
  have h1 : 1 ≤ n := by omega
  have hmx := follows
  have hpl : p < 64 := by omega
  have hql : wh ≤ 4398046511104 := by omega
  obtain ⟨off, ha⟩ : ∃ off, 0 < xs.length → a = some ⟨b, off, none⟩ := by
    by_cases h : 0 < xs.length
    · obtain ⟨off, h2⟩ := hsome h; exact ⟨off, fun _ => h2⟩
    · exact ⟨0, fun h2 => absurd h2 h⟩
  have hmk : ∀ u : World, (Instr.makeSlice 22 (.int .i64 ((xs.length : Int) + (wh : Int) + 1)) (.int .i64 ((xs.length : Int) + (wh : Int) + 1))).run Try.prog u =
          .ok (.slice (some ⟨u.heap.size, 0, none⟩) (xs.length + wh + 1) (xs.length + wh + 1)) (u.alloc (.cells (cellsOf .u64 (List.replicate (xs.length + wh + 1) 0)) 32)) := make_u64 (xs.length + wh + 1) (by omega)
  refine callsIn_of_wp_marks Try.func163 rfl trivial ?_ rfl
  simp only [Try.ntmps163, List.size_toArray, List.length_cons, List.length_nil, Nat.reduceAdd, Nat.reduceSub, Array.replicate_succ, Array.replicate_zero, List.push_toArray, List.append_toArray, List.nil_append, List.cons_append]
  gi_wp2_with (refine ⟨trivial, ?_⟩; gi_at_call 172; refine (nup_in Fence.wide (n - 1) trivial rfl _ _ _ _).mono ?_; rintro e w' ⟨rfl, rfl⟩)
  clear hmk hsome
  have b1 := (((( Boxed.new w 3 (.int .i64 (wh : Int))).alloc (.cells #[.int .i64 (p : Int)] 3)).alloc (.cells (cellsOf .u64 (List.replicate (xs.length + wh + 1) 0)) 32)).alloc (.cells #[.slice (some ⟨w.heap.size + 1 + 1, 0, none⟩) (xs.length + wh + 1) (xs.length + wh + 1)] 22)).alloc (.cells #[.slice a xs.length cap] 22)
  have b2 := ((( Boxed.new (w.alloc (.cells #[.int .i64 (wh : Int)] 3)) 3 (.int .i64 (p : Int))).alloc (.cells (cellsOf .u64 (List.replicate (xs.length + wh + 1) 0)) 32)).alloc (.cells #[.slice (some ⟨w.heap.size + 1 + 1, 0, none⟩) (xs.length + wh + 1) (xs.length + wh + 1)] 22)).alloc (.cells #[.slice a xs.length cap] 22)
  have b3 := ((Row.new ((w.alloc (.cells #[.int .i64 (wh : Int)] 3)).alloc (.cells #[.int .i64 (p : Int)] 3)) .u64 32 (List.replicate (xs.length + wh + 1) 0)).alloc (.cells #[.slice (some ⟨w.heap.size + 1 + 1, 0, none⟩) (xs.length + wh + 1) (xs.length + wh + 1)] 22)).alloc (.cells #[.slice a xs.length cap] 22)
  have b4 := (Boxed.new (((w.alloc (.cells #[.int .i64 (wh : Int)] 3)).alloc (.cells #[.int .i64 (p : Int)] 3)).alloc (.cells (cellsOf .u64 (List.replicate (xs.length + wh + 1) 0)) 32)) 22 (.slice (some ⟨w.heap.size + 1 + 1, 0, none⟩) (xs.length + wh + 1) (xs.length + wh + 1))).alloc (.cells #[.slice a xs.length cap] 22)
  have b5 := Boxed.new ((((w.alloc (.cells #[.int .i64 (wh : Int)] 3)).alloc (.cells #[.int .i64 (p : Int)] 3)).alloc (.cells (cellsOf .u64 (List.replicate (xs.length + wh + 1) 0)) 32)).alloc (.cells #[.slice (some ⟨w.heap.size + 1 + 1, 0, none⟩) (xs.length + wh + 1) (xs.length + wh + 1)] 22)) 22 (.slice a xs.length cap)
  have hB0 : Below w.heap.size w (((((w.alloc (.cells #[.int .i64 (wh : Int)] 3)).alloc (.cells #[.int .i64 (p : Int)] 3)).alloc (.cells (cellsOf .u64 (List.replicate (xs.length + wh + 1) 0)) 32)).alloc (.cells #[.slice (some ⟨w.heap.size + 1 + 1, 0, none⟩) (xs.length + wh + 1) (xs.length + wh + 1)] 22)).alloc (.cells #[.slice a xs.length cap] 22)) := (((((Below.refl _ w).alloc (Nat.le_refl _) _).alloc (by simp) _).alloc (by simp; omega) _).alloc (by simp; omega) _).alloc (by simp; omega) _
  simp only [World.size_alloc] at b1 b2 b3 b4 b5
  have hW0 : (((((w.alloc (.cells #[.int .i64 (wh : Int)] 3)).alloc (.cells #[.int .i64 (p : Int)] 3)).alloc (.cells (cellsOf .u64 (List.replicate (xs.length + wh + 1) 0)) 32)).alloc (.cells #[.slice (some ⟨w.heap.size + 1 + 1, 0, none⟩) (xs.length + wh + 1) (xs.length + wh + 1)] 22)).alloc (.cells #[.slice a xs.length cap] 22)).heap.size = w.heap.size + 1 + 1 + 1 + 1 + 1 := by simp
  generalize (((((w.alloc (.cells #[.int .i64 (wh : Int)] 3)).alloc (.cells #[.int .i64 (p : Int)] 3)).alloc (.cells (cellsOf .u64 (List.replicate (xs.length + wh + 1) 0)) 32)).alloc (.cells #[.slice (some ⟨w.heap.size + 1 + 1, 0, none⟩) (xs.length + wh + 1) (xs.length + wh + 1)] 22)).alloc (.cells #[.slice a xs.length cap] 22)) = W0 at *
  refine wpIn_range (σ := Pl xs.length) rfl h1 (gf := 178) (lb := #[.pointer (some ⟨w.heap.size + 1 + 1 + 1 + 1, 0, none⟩)]) rfl trivial (enters_of Try.func178 (by kernel_rfl) rfl)
    (encs := encU xs) (fun _ => rfl) (rwI xs wh p a cap w 0) (fun s => rwI xs wh p a cap w (s.1 + 1)) (fun s => rwI xs wh p a cap w s.1) (rwI xs wh p a cap w xs.length) (fun _ _ => False)
    (rwI_steady _ _ _ _ _ _ _ (by omega)) (fun _ => rwI_steady _ _ _ _ _ _ _ (by omega)) (fun _ => rwI_steady _ _ _ _ _ _ _ (by omega)) (rwI_steady _ _ _ _ _ _ _ (by omega)) (fun _ => steady_pure)
    ⟨⟨b1, b2, b3, b4, b5⟩, hB0⟩ ?seq ?a1 ?assign ?body ?done ?stop
  case seq =>
    intro l X Xz W hl hXs hI0 hX hY
    exact nup_st Fence.wide (n - 1) trivial rfl (by omega) l (w.heap.size + 1 + 1 + 1 + 1) b off cap xs.length a ha (by omega) (fun k => (lim xs k : Int)) (rwI xs wh p a cap w) X _ Xz
      (fun k W _ h => h.1.2.2.2.2.cell)
      (fun k W hk h => by
        obtain rfl := ha (by omega)
        exact (h.2.cell (p := ⟨b, off + k, none⟩) hb).trans (hI.cell hk))
      (fun k U hk h hx => hY ⟨k, hk⟩ U h hx) W hI0 hX
  case assign =>
    intro l x W K hK
    gi_wp2
    exact hK
  case body =>
    rintro l j W hl ⟨⟨c1, c2, c3, c4, c5⟩, hB⟩
    obtain ⟨k, hk⟩ := j
    dsimp only
    have hx := lim_lt hlow (by decide) k
    obtain ⟨f1, f2, f3, f4, f5⟩ := rw_fine (wh := wh) hlow hpl k (by omega)
    have hst : Hid (rwS xs wh p (k + 1) = ((rwS xs wh p k).set (wh + k) (lim (rwS xs wh p k) (wh + k) ||| shlw (lim xs k) p)).set (wh + k + 1) (shrw (lim xs k) (64 - p))) := Lib.hid rfl
    generalize rwS xs wh p k = s at *
    have hc0 := lim_lt f2 (by decide) (wh + k)
    have hkr := c3.cell (i := wh + k) (by omega)
    have hfr := c3.frozen (wh + k)
    have hfr1 := c3.frozen (wh + k + 1)
    have hor := bits_or_u64_nat (lim s (wh + k)) (shlw (lim xs k) p) hc0 (shlw_lt _ _)
    have F1 := Lib.hid f1
    have F3 := Lib.hid f3
    have F4 := Lib.hid f4
    clear f1 f3 f4
    generalize hxe : lim xs k = x at *
    generalize hoe : lim s (wh + k) = o at *
    have hshl : IntKind.u64.wrap ((x : Int) * 2 ^ p) = (shlw x p : Int) := by have := wrap_shl hx (p := p) (by omega); rwa [Nat.min_eq_left (by omega)] at this
    have hshr : (x : Int) / 2 ^ min (64 - p) 64 = (shrw x (64 - p) : Int) := div_shr x (64 - p) (by omega)
    have hshr2 : (x : Int) / 2 ^ (64 - p) = (shrw x (64 - p) : Int) := by have := div_shr x (64 - p) (by omega); rwa [Nat.min_eq_left (by omega)] at this
    have d3 := c3.set (wh + k) (o ||| shlw x p)
    have d1 := c1.far (p := ⟨w.heap.size + 1 + 1, wh + k, none⟩) (by (try dsimp only); omega) (.int .u64 ((o ||| shlw x p : Nat) : Int))
    have d2 := c2.far (p := ⟨w.heap.size + 1 + 1, wh + k, none⟩) (by (try dsimp only); omega) (.int .u64 ((o ||| shlw x p : Nat) : Int))
    have d4 := c4.far (p := ⟨w.heap.size + 1 + 1, wh + k, none⟩) (by (try dsimp only); omega) (.int .u64 ((o ||| shlw x p : Nat) : Int))
    have d5 := c5.far (p := ⟨w.heap.size + 1 + 1, wh + k, none⟩) (by (try dsimp only); omega) (.int .u64 ((o ||| shlw x p : Nat) : Int))
    have dB := hB.setCell (p := ⟨w.heap.size + 1 + 1, wh + k, none⟩) (by (try dsimp only); omega) (.int .u64 ((o ||| shlw x p : Nat) : Int))
    have e3 := d3.set (wh + k + 1) (shrw x (64 - p))
    have e1 := d1.far (p := ⟨w.heap.size + 1 + 1, wh + k + 1, none⟩) (by (try dsimp only); omega) (.int .u64 (shrw x (64 - p) : Int))
    have e2 := d2.far (p := ⟨w.heap.size + 1 + 1, wh + k + 1, none⟩) (by (try dsimp only); omega) (.int .u64 (shrw x (64 - p) : Int))
    have e4 := d4.far (p := ⟨w.heap.size + 1 + 1, wh + k + 1, none⟩) (by (try dsimp only); omega) (.int .u64 (shrw x (64 - p) : Int))
    have e5 := d5.far (p := ⟨w.heap.size + 1 + 1, wh + k + 1, none⟩) (by (try dsimp only); omega) (.int .u64 (shrw x (64 - p) : Int))
    have eB := dB.setCell (p := ⟨w.heap.size + 1 + 1, wh + k + 1, none⟩) (by (try dsimp only); omega) (.int .u64 (shrw x (64 - p) : Int))
    have g3 := d3.frozen (wh + k + 1)
    have kd := d3.cell (i := wh + k + 1) (by rw [List.length_set, F1.out]; omega)
    have i0 : (0 : Int) ≤ (wh : Int) + (k : Int) := by omega
    have i1 : (wh : Int) + (k : Int) < (xs.length : Int) + (wh : Int) + 1 := by omega
    have i2 : (0 : Int) ≤ (wh : Int) + (k : Int) + 1 := by omega
    have i3 : (wh : Int) + (k : Int) + 1 < (xs.length : Int) + (wh : Int) + 1 := by omega
    have i4 : (0 : Int) ≤ 64 - (p : Int) := by omega
    have t1 : ((wh : Int) + (k : Int)).toNat = wh + k := by omega
    have t2 : ((wh : Int) + (k : Int) + 1).toNat = wh + k + 1 := by omega
    have t3 : (64 - (p : Int)).toNat = 64 - p := by omega
    have z1 : IntKind.i64.wrap ((wh : Int) + (k : Int)) = (wh : Int) + (k : Int) := IntWalk.i64_in _ (by omega)
    have z2 : IntKind.i64.wrap ((wh : Int) + (k : Int) + 1) = (wh : Int) + (k : Int) + 1 := IntWalk.i64_in _ (by omega)
    have z3 : IntKind.i64.wrap (64 - (p : Int)) = 64 - (p : Int) := IntWalk.i64_in _ (by omega)
    gi_wp2
    refine region_round hmx (by kernel_rfl) (by rintro ⟨_, _, h⟩; exact h) (fun u => u.cell? ⟨w.heap.size + 1 + 1 + 1, 0, none⟩ = some (.slice (some ⟨w.heap.size + 1 + 1, 0, none⟩) (xs.length + wh + 1) (xs.length + wh + 1)) ∧ u.cell? ⟨w.heap.size, 0, none⟩ = some (.int .i64 (wh : Int)) ∧ u.cell? ⟨w.heap.size + 1, 0, none⟩ = some (.int .i64 (p : Int))) ⟨c4.cell, c1.cell, c2.cell⟩ (fun hHeld => ?_)
    refine wpAnyH_take (i := 0) (v := ?_) rfl (by kernel_rfl) (by kernel_rfl) (by kernel_rfl) (fun _ _ _ h => h) (Or.inl ⟨by rfl, ?_⟩) (by assumption) ?_
    rotate_left
    · (intro _ hSw; (try dsimp only at hSw); (first | (go_simp; done) | (go_simp; with_reducible rfl)))
    try simp only [Act.put, List.getElem_toArray, List.getElem_cons_zero, List.setIfInBounds_toArray, List.set_cons_zero, List.set_cons_succ]
    refine wpAnyH_take (i := 1) (v := ?_) rfl (by kernel_rfl) (by kernel_rfl) (by kernel_rfl) (fun _ _ _ h => h) (Or.inl ⟨by rfl, ?_⟩) (by assumption) ?_
    rotate_left
    · (intro _ hSw; (try dsimp only at hSw); (first | (go_simp; done) | (go_simp; with_reducible rfl)))
    try simp only [Act.put, List.getElem_toArray, List.getElem_cons_zero, List.getElem_cons_succ, List.setIfInBounds_toArray, List.set_cons_zero, List.set_cons_succ]
    refine wpAnyH_take (i := 2) (v := ?_) rfl (by kernel_rfl) (by kernel_rfl) (by kernel_rfl) (fun _ _ _ h => h) (Or.inl ⟨by rfl, ?_⟩) (by assumption) ?_
    rotate_left
    · (intro _ hSw; (try dsimp only at hSw); (first | (go_simp; done) | (go_simp; with_reducible rfl)))
    try simp only [Act.put, List.getElem_toArray, List.getElem_cons_zero, List.getElem_cons_succ, List.setIfInBounds_toArray, List.set_cons_zero, List.set_cons_succ]
    refine wpAnyH_take (i := 3) (v := ?_) rfl (by kernel_rfl) (by kernel_rfl) (by kernel_rfl) (fun _ _ _ h => h) (Or.inl ⟨by rfl, ?_⟩) (by assumption) ?_
    rotate_left
    · (intro _ hSw; (try dsimp only at hSw); (first | (go_simp; done) | (go_simp; with_reducible rfl)))
    try simp only [Act.put, List.getElem_toArray, List.getElem_cons_zero, List.getElem_cons_succ, List.setIfInBounds_toArray, List.set_cons_zero, List.set_cons_succ]
    refine wpAnyH_take (i := 4) (v := ?_) rfl (by kernel_rfl) (by kernel_rfl) (by kernel_rfl) (fun _ _ _ h => h) (Or.inl ⟨by rfl, ?_⟩) (by assumption) ?_
    rotate_left
    · (intro _ hSw; (try dsimp only at hSw); (first | (go_simp; done) | (go_simp; with_reducible rfl)))
    try simp only [Act.put, List.getElem_toArray, List.getElem_cons_zero, List.getElem_cons_succ, List.setIfInBounds_toArray, List.set_cons_zero, List.set_cons_succ]
    refine wpAnyH_take (i := 6) (v := ?_) rfl (by kernel_rfl) (by kernel_rfl) (by kernel_rfl) (fun _ _ _ h => h) (Or.inl ⟨by rfl, ?_⟩) (by assumption) ?_
    rotate_left
    · (intro _ hSw; (try dsimp only at hSw); (first | (go_simp; done) | (go_simp; with_reducible rfl)))
    try simp only [Act.put, List.getElem_toArray, List.getElem_cons_zero, List.getElem_cons_succ, List.setIfInBounds_toArray, List.set_cons_zero, List.set_cons_succ]
    refine wpAnyH_take (i := 7) (v := ?_) rfl (by kernel_rfl) (by kernel_rfl) (by kernel_rfl) (fun _ _ _ h => h) (Or.inl ⟨by rfl, ?_⟩) (by assumption) ?_
    rotate_left
    · (intro _ hSw; (try dsimp only at hSw); (first | (go_simp; done) | (go_simp; with_reducible rfl)))
    try simp only [Act.put, List.getElem_toArray, List.getElem_cons_zero, List.getElem_cons_succ, List.setIfInBounds_toArray, List.set_cons_zero, List.set_cons_succ]
    refine wpAnyH_take (i := 8) (v := ?_) rfl (by kernel_rfl) (by kernel_rfl) (by kernel_rfl) (fun _ _ _ h => h) (Or.inl ⟨by rfl, ?_⟩) (by assumption) ?_
    rotate_left
    · (intro _ hSw; (try dsimp only at hSw); (first | (go_simp; done) | (go_simp; with_reducible rfl)))
    try simp only [Act.put, List.getElem_toArray, List.getElem_cons_zero, List.getElem_cons_succ, List.setIfInBounds_toArray, List.set_cons_zero, List.set_cons_succ]
    refine wpAnyH_ready (rs := [5]) (by kernel_rfl) (by simp) ?_
    refine AllReadyH.cons rfl (fun K hK => ?_) AllReadyH.nil
    go_simp
    refine hK.out _ _ hHeld (fun hHeld => ?_)
    clear hK K
    try simp only [Act.put, List.getElem_toArray, List.getElem_cons_zero, List.getElem_cons_succ, List.setIfInBounds_toArray, List.set_cons_zero, List.set_cons_succ]
    refine wpAnyH_ready (rs := [9]) (by kernel_rfl) (by simp) ?_
    refine AllReadyH.cons rfl (fun K hK => ?_) AllReadyH.nil
    go_simp
    refine hK.out _ _ hHeld (fun hHeld => ?_)
    clear hK K
    try simp only [Act.put, List.getElem_toArray, List.getElem_cons_zero, List.getElem_cons_succ, List.setIfInBounds_toArray, List.set_cons_zero, List.set_cons_succ]
    refine wpAnyH_ready (rs := [10]) (by kernel_rfl) (by simp) ?_
    refine AllReadyH.cons rfl (fun K hK => ?_) AllReadyH.nil
    go_simp
    refine hK.out _ _ hHeld (fun hHeld => ?_)
    clear hK K
    try simp only [Act.put, List.getElem_toArray, List.getElem_cons_zero, List.getElem_cons_succ, List.setIfInBounds_toArray, List.set_cons_zero, List.set_cons_succ]
    refine wpAnyH_ready (rs := [11]) (by kernel_rfl) (by simp) ?_
    refine AllReadyH.cons rfl (fun K hK => ?_) AllReadyH.nil
    go_simp
    refine hK.out _ _ ⟨d4.cell, d1.cell, d2.cell⟩ (fun hHeld => ?_)
    clear hK K
    try simp only [Act.put, List.getElem_toArray, List.getElem_cons_zero, List.getElem_cons_succ, List.setIfInBounds_toArray, List.set_cons_zero, List.set_cons_succ]
    refine wpAnyH_done (by kernel_rfl) ?_ _
    gi_wp2
    refine region_round hmx (by kernel_rfl) (by rintro ⟨_, _, h⟩; exact h) (fun u => u.cell? ⟨w.heap.size + 1 + 1 + 1, 0, none⟩ = some (.slice (some ⟨w.heap.size + 1 + 1, 0, none⟩) (xs.length + wh + 1) (xs.length + wh + 1)) ∧ u.cell? ⟨w.heap.size, 0, none⟩ = some (.int .i64 (wh : Int)) ∧ u.cell? ⟨w.heap.size + 1, 0, none⟩ = some (.int .i64 (p : Int))) ⟨d4.cell, d1.cell, d2.cell⟩ (fun hHeld => ?_)
    refine wpAnyH_take (i := 0) (v := ?_) rfl (by kernel_rfl) (by kernel_rfl) (by kernel_rfl) (fun _ _ _ h => h) (Or.inl ⟨by rfl, ?_⟩) (by assumption) ?_
    rotate_left
    · (intro _ hSw; (try dsimp only at hSw); (first | (go_simp; done) | (go_simp; with_reducible rfl)))
    try simp only [Act.put, List.getElem_toArray, List.getElem_cons_zero, List.setIfInBounds_toArray, List.set_cons_zero, List.set_cons_succ]
    refine wpAnyH_take (i := 1) (v := ?_) rfl (by kernel_rfl) (by kernel_rfl) (by kernel_rfl) (fun _ _ _ h => h) (Or.inl ⟨by rfl, ?_⟩) (by assumption) ?_
    rotate_left
    · (intro _ hSw; (try dsimp only at hSw); (first | (go_simp; done) | (go_simp; with_reducible rfl)))
    try simp only [Act.put, List.getElem_toArray, List.getElem_cons_zero, List.getElem_cons_succ, List.setIfInBounds_toArray, List.set_cons_zero, List.set_cons_succ]
    refine wpAnyH_take (i := 2) (v := ?_) rfl (by kernel_rfl) (by kernel_rfl) (by kernel_rfl) (fun _ _ _ h => h) (Or.inl ⟨by rfl, ?_⟩) (by assumption) ?_
    rotate_left
    · (intro _ hSw; (try dsimp only at hSw); (first | (go_simp; done) | (go_simp; with_reducible rfl)))
    try simp only [Act.put, List.getElem_toArray, List.getElem_cons_zero, List.getElem_cons_succ, List.setIfInBounds_toArray, List.set_cons_zero, List.set_cons_succ]
    refine wpAnyH_take (i := 3) (v := ?_) rfl (by kernel_rfl) (by kernel_rfl) (by kernel_rfl) (fun _ _ _ h => h) (Or.inl ⟨by rfl, ?_⟩) (by assumption) ?_
    rotate_left
    · (intro _ hSw; (try dsimp only at hSw); (first | (go_simp; done) | (go_simp; with_reducible rfl)))
    try simp only [Act.put, List.getElem_toArray, List.getElem_cons_zero, List.getElem_cons_succ, List.setIfInBounds_toArray, List.set_cons_zero, List.set_cons_succ]
    refine wpAnyH_take (i := 4) (v := ?_) rfl (by kernel_rfl) (by kernel_rfl) (by kernel_rfl) (fun _ _ _ h => h) (Or.inl ⟨by rfl, ?_⟩) (by assumption) ?_
    rotate_left
    · (intro _ hSw; (try dsimp only at hSw); (first | (go_simp; done) | (go_simp; with_reducible rfl)))
    try simp only [Act.put, List.getElem_toArray, List.getElem_cons_zero, List.getElem_cons_succ, List.setIfInBounds_toArray, List.set_cons_zero, List.set_cons_succ]
    refine wpAnyH_take (i := 5) (v := ?_) rfl (by kernel_rfl) (by kernel_rfl) (by kernel_rfl) (fun _ _ _ h => h) (Or.inl ⟨by rfl, ?_⟩) (by assumption) ?_
    rotate_left
    · (intro _ hSw; (try dsimp only at hSw); (first | (go_simp; done) | (go_simp; with_reducible rfl)))
    try simp only [Act.put, List.getElem_toArray, List.getElem_cons_zero, List.getElem_cons_succ, List.setIfInBounds_toArray, List.set_cons_zero, List.set_cons_succ]
    refine wpAnyH_take (i := 6) (v := ?_) rfl (by kernel_rfl) (by kernel_rfl) (by kernel_rfl) (fun _ _ _ h => h) (Or.inl ⟨by rfl, ?_⟩) (by assumption) ?_
    rotate_left
    · (intro _ hSw; (try dsimp only at hSw); (first | (go_simp; done) | (go_simp; with_reducible rfl)))
    try simp only [Act.put, List.getElem_toArray, List.getElem_cons_zero, List.getElem_cons_succ, List.setIfInBounds_toArray, List.set_cons_zero, List.set_cons_succ]
    refine wpAnyH_take (i := 7) (v := ?_) rfl (by kernel_rfl) (by kernel_rfl) (by kernel_rfl) (fun _ _ _ h => h) (Or.inl ⟨by rfl, ?_⟩) (by assumption) ?_
    rotate_left
    · (intro _ hSw; (try dsimp only at hSw); (first | (go_simp; done) | (go_simp; with_reducible rfl)))
    try simp only [Act.put, List.getElem_toArray, List.getElem_cons_zero, List.getElem_cons_succ, List.setIfInBounds_toArray, List.set_cons_zero, List.set_cons_succ]
    refine wpAnyH_take (i := 8) (v := ?_) rfl (by kernel_rfl) (by kernel_rfl) (by kernel_rfl) (fun _ _ _ h => h) (Or.inl ⟨by rfl, ?_⟩) (by assumption) ?_
    rotate_left
    · (intro _ hSw; (try dsimp only at hSw); (first | (go_simp; done) | (go_simp; with_reducible rfl)))
    try simp only [Act.put, List.getElem_toArray, List.getElem_cons_zero, List.getElem_cons_succ, List.setIfInBounds_toArray, List.set_cons_zero, List.set_cons_succ]
    refine wpAnyH_take (i := 9) (v := ?_) rfl (by kernel_rfl) (by kernel_rfl) (by kernel_rfl) (fun _ _ _ h => h) (Or.inl ⟨by rfl, ?_⟩) (by assumption) ?_
    rotate_left
    · (intro _ hSw; (try dsimp only at hSw); (first | (go_simp; done) | (go_simp; with_reducible rfl)))
    try simp only [Act.put, List.getElem_toArray, List.getElem_cons_zero, List.getElem_cons_succ, List.setIfInBounds_toArray, List.set_cons_zero, List.set_cons_succ]
    refine wpAnyH_ready (rs := [10]) (by kernel_rfl) (by simp) ?_
    refine AllReadyH.cons rfl (fun K hK => ?_) AllReadyH.nil
    go_simp
    refine hK.out _ _ ⟨e4.cell, e1.cell, e2.cell⟩ (fun hHeld => ?_)
    clear hK K
    try simp only [Act.put, List.getElem_toArray, List.getElem_cons_zero, List.getElem_cons_succ, List.setIfInBounds_toArray, List.set_cons_zero, List.set_cons_succ]
    refine wpAnyH_done (by kernel_rfl) ?_ _
    exact ⟨((((KeepsOthers.setCell _ _ _).trans (KeepsOthers.setCell _ _ _)).trans (KeepsOthers.drew _)).trans (KeepsOthers.drew _)).from _, ⟨e1, e2, by rw [hst.out]; exact e3, e4, e5⟩, eB.drew.drew⟩
  case done =>
    rintro D W hD ⟨⟨c1, c2, c3, c4, c5⟩, hB⟩ hK
    rw [hW0] at hD
    have k4 := c4.cell
    gi_wp2
    refine ⟨by simp, .inl ⟨_, _, rfl, run_takeDeferred hK, ?_⟩⟩
    exact ⟨_, results_tmp rfl _ _ _, rfl, c3.put (by omega) _, hB.trans (belowK_b (w := w) (Nat.le_refl _) W D _ _ (by omega) hK rfl rfl)⟩
  case stop =>
    rintro D c W _ h _
    exact h.elim
theorem raiseWide_calls (b : Nat) (v : Value) (xs : List Nat) (m : Nat) (hreach : xs.length ≤ 4398046511104) (hm : m ≤ 281474976710656) (hlow : Low 18446744073709551616 xs) (w : World) (hb : b < w.heap.size) (hI : RdAt b w v xs) :
    Calls Try.prog 163 #[v, .int .i64 (m : Int)] w fun e W' => ∃ S s, e = .returned (.slice (some ⟨S, 0, none⟩) s.length s.length) ∧ Row .u64 32 W' S s ∧ w.heap.size ≤ S ∧ s.length = xs.length + m / 64 + 1 ∧ Low 18446744073709551616 s ∧ val 18446744073709551616 s = val 18446744073709551616 xs * 2 ^ m ∧ Below w.heap.size w W' := by
  obtain ⟨f1, f2, f3, _, _⟩ := rw_fine (wh := m / 64) (p := m % 64) hlow (Nat.mod_lt _ (by decide)) xs.length (Nat.le_refl _)
  refine (callsIn_wide.1 (raiseWide_in 6 (Nat.le_refl _) b v xs m (m / 64) (m % 64) hreach hm hlow (by omega) (by omega) w hb hI)).mono fun e W' ⟨he, hr, hB⟩ => ⟨_, _, ?_, hr, by omega, f1, f2, ?_, hB⟩
  · rw [f1]; exact he
  · rw [f3, part_all, show 18446744073709551616 = 2 ^ 64 from rfl, ← Nat.pow_mul, ← Nat.pow_add, Nat.div_add_mod]
end Go.Proofs.Ytdcebkhdnhdejaa
