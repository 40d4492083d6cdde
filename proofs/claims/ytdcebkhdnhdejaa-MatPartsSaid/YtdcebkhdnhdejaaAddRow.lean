/- nat.addRow: a row and a list times a word. -/
import Derived.Test.YtdcebkhdnhdejaaBits
namespace Go.Proofs.Ytdcebkhdnhdejaa
open Go.RowKit Go.Shelf

attribute [local go_sem] Oper.semAt_some

set_option maxRecDepth 100000 in
set_option maxHeartbeats 2000000 in
theorem addRow_in (n : Nat) (hn : 6 ≤ n) (S off cap bQ : Nat) (vq : Value) (s Q : List Nat) (x : Nat) (hs : Low 18446744073709551616 s) (hQ : Low 18446744073709551616 Q) (hx : x < 18446744073709551616) (hoff : off + Q.length ≤ s.length) (_hcap : Q.length ≤ cap) (hQl : Q.length ≤ 9223372036854775806)
    (w : World) (hS : Row .u64 32 w S s) (hbQ : bQ < w.heap.size) (hne : bQ ≠ S) (hB : RdAt bQ w vq Q) :
    CallsIn Fence.wide n Try.prog 160 #[.slice (some ⟨S, off, none⟩) Q.length cap, vq, .int .u64 x] w fun e W' => e = .returned (.int .u64 ((rowRun Q x off s (List.range Q.length)).2 : Int)) ∧ Row .u64 32 W' S (rowRun Q x off s (List.range Q.length)).1 ∧ Off S w W' := by
  have h1 : 1 ≤ n := by omega
  have hmx := follows
  have hSl := hS.lt
  obtain ⟨aQ, capQ, rfl, hcapQ, _⟩ := hB.slice
  refine callsIn_of_wp_marks Try.func160 rfl trivial ?_ rfl
  simp only [Try.ntmps160, List.size_toArray, List.length_cons, List.length_nil, Nat.reduceAdd, Nat.reduceSub, Array.replicate_succ, Array.replicate_zero, List.push_toArray, List.append_toArray, List.nil_append, List.cons_append]
  gi_wp2_with (refine ⟨trivial, ?_⟩; gi_at_call 158; refine (up_in Fence.wide (n - 1) trivial rfl _ _ _ _).mono ?_; rintro e w' ⟨rfl, rfl⟩)
  have o1 : Obj := .cells #[.slice (some ⟨S, off, none⟩) Q.length cap] 22
  have r0 := (((hS.alloc (.cells #[.slice (some ⟨S, off, none⟩) Q.length cap] 22)).alloc (.cells #[.int .u64 x] 32)).alloc (.cells #[.int .u64 0] 32)).alloc (.cells #[.slice aQ Q.length capQ] 22)
  have b1 := (((Boxed.new w 22 (.slice (some ⟨S, off, none⟩) Q.length cap)).alloc (.cells #[.int .u64 x] 32)).alloc (.cells #[.int .u64 0] 32)).alloc (.cells #[.slice aQ Q.length capQ] 22)
  have b2 := ((Boxed.new (w.alloc (.cells #[.slice (some ⟨S, off, none⟩) Q.length cap] 22)) 32 (.int .u64 x)).alloc (.cells #[.int .u64 0] 32)).alloc (.cells #[.slice aQ Q.length capQ] 22)
  have b3 := (Boxed.new ((w.alloc (.cells #[.slice (some ⟨S, off, none⟩) Q.length cap] 22)).alloc (.cells #[.int .u64 x] 32)) 32 (.int .u64 0)).alloc (.cells #[.slice aQ Q.length capQ] 22)
  have b4 := Boxed.new (((w.alloc (.cells #[.slice (some ⟨S, off, none⟩) Q.length cap] 22)).alloc (.cells #[.int .u64 x] 32)).alloc (.cells #[.int .u64 0] 32)) 22 (.slice aQ Q.length capQ)
  have hO := (Off.refl S w).below (((((Below.refl w.heap.size w).alloc (Nat.le_refl _) (.cells #[.slice (some ⟨S, off, none⟩) Q.length cap] 22)).alloc (by simp) (.cells #[.int .u64 x] 32)).alloc (by simp; omega) (.cells #[.int .u64 0] 32)).alloc (by simp; omega) (.cells #[.slice aQ Q.length capQ] 22))
  have hQ4 : RdAt bQ _ (.slice aQ Q.length capQ) Q := hB.kept (hO.block bQ hbQ hne)
  simp only [World.size_alloc] at b1 b2 b3 b4
  refine wpIn_rangeFunc_ownG rfl h1 (gf := 170) (lb := #[.pointer (some ⟨w.heap.size + 1 + 1 + 1, 0, none⟩)]) rfl trivial (enters_of Try.func170 (by kernel_rfl) rfl)
    (up_stops Fence.wide (n - 1) trivial rfl (by omega) (w.heap.size + 1 + 1 + 1) bQ _ Q (by omega) _ (by simp) (by simp; omega) b4.cell hQ4) Keep.trans (keep_put (by simp) (by simp; omega)) (Below.refl _ _) (fun _ => rfl)
    (fun pre W => (Row .u64 32 W S (rowRun Q x off s (pre.map Subtype.val)).1 ∧ Boxed W w.heap.size 22 (.slice (some ⟨S, off, none⟩) Q.length cap) ∧
      Boxed W (w.heap.size + 1) 32 (.int .u64 x) ∧ Boxed W (w.heap.size + 1 + 1) 32 (.int .u64 ((rowRun Q x off s (pre.map Subtype.val)).2 : Int))) ∧ Off S w W)
    (fun _ _ _ => False)
    (OwnFrom.and (OwnFrom.and (Own.from (row_own _ _ _ _) _) (OwnFrom.and (Own.from (boxed_own _ _ _) _) (OwnFrom.and (Own.from (boxed_own _ _ _) _) (Own.from (boxed_own _ _ _) _)))) (ownFrom_off (by simp; omega)))
    (fun _ _ _ _ _ hs _ _ => hs)
    ⟨⟨r0, b1, b2, b3⟩, hO⟩
    ?a1 ?assign ?body ?done ?stop
  case assign =>
    intro l x W K hK
    gi_wp2
    exact hK
  case body =>
    rintro l pre j W ⟨⟨hr, c1, c2, c3⟩, hO⟩ _
    have hj := j.2
    have hd0 : 1 ≤ n - 1 - 1 := by omega
    have hSt : Hid (rowRun Q x off s ((pre ++ [j]).map Subtype.val) = rowStep Q x off (rowRun Q x off s (pre.map Subtype.val)) j.1) := Lib.hid (by rw [List.map_append]; exact rowRun_snoc _ _ _ _ _ _)
    obtain ⟨f1, f2, f3⟩ := row_fine off hQ hs hx (pre.map Subtype.val)
    generalize hst : rowRun Q x off s (pre.map Subtype.val) = st at hr c1 c2 c3 hSt f1 f2 f3
    have HST := Lib.hid hst
    clear hst
    have hy := lim_lt hQ (by decide) j.1
    have hsj := lim_lt f3 (by decide) (off + j.1)
    obtain ⟨mb1, mb2, mb3⟩ := mul_bound hx hy hsj f2
    have MB := Lib.hid mb1
    clear mb1
    have k1 := c1.cell
    have k2 := c2.cell
    have k3 := c3.cell
    have kr := hr.cell (i := off + j.1) (by omega)
    have gr := hr.frozen (off + j.1)
    have g3 := c3.frozen
    have hfn : Fence.wide.fn 166 := trivial
    have h64a : ∀ u : World, (callFunc 166 #[.int .u64 (mulLo x (lim Q j.1) : Int), .int .u64 (lim st.1 (off + j.1) : Int), .int .u64 0]).run Try.prog u = .ok (.value (.tuple #[.int .u64 (add64 (mulLo x (lim Q j.1)) (lim st.1 (off + j.1)) 0 : Int), .int .u64 (carry64 (mulLo x (lim Q j.1)) (lim st.1 (off + j.1)) 0 : Int)])) u := add64_run _ _ 0 (by omega)
    have h64b : ∀ u : World, (callFunc 166 #[.int .u64 (add64 (mulLo x (lim Q j.1)) (lim st.1 (off + j.1)) 0 : Int), .int .u64 (st.2 : Int), .int .u64 0]).run Try.prog u = .ok (.value (.tuple #[.int .u64 (add64 (add64 (mulLo x (lim Q j.1)) (lim st.1 (off + j.1)) 0) st.2 0 : Int), .int .u64 (carry64 (add64 (mulLo x (lim Q j.1)) (lim st.1 (off + j.1)) 0) st.2 0 : Int)])) u := add64_run _ _ 0 (by omega)
    have F1 := Lib.hid f1
    clear f1
    have nr := hr.set (off + j.1) (add64 (add64 (mulLo x (lim Q j.1)) (lim st.1 (off + j.1)) 0) st.2 0)
    have n1 := c1.far (p := ⟨S, off + j.1, none⟩) (by (try dsimp only); omega) (.int .u64 (add64 (add64 (mulLo x (lim Q j.1)) (lim st.1 (off + j.1)) 0) st.2 0 : Nat))
    have n2 := c2.far (p := ⟨S, off + j.1, none⟩) (by (try dsimp only); omega) (.int .u64 (add64 (add64 (mulLo x (lim Q j.1)) (lim st.1 (off + j.1)) 0) st.2 0 : Nat))
    have n3 := c3.far (p := ⟨S, off + j.1, none⟩) (by (try dsimp only); omega) (.int .u64 (add64 (add64 (mulLo x (lim Q j.1)) (lim st.1 (off + j.1)) 0) st.2 0 : Nat))
    have kn := n3.cell
    have gn := n3.frozen
    have mr := nr.far (p := ⟨w.heap.size + 1 + 1, 0, none⟩) (by (try dsimp only); omega) (.int .u64 ((mulHi x (lim Q j.1) + carry64 (mulLo x (lim Q j.1)) (lim st.1 (off + j.1)) 0 + carry64 (add64 (mulLo x (lim Q j.1)) (lim st.1 (off + j.1)) 0) st.2 0 : Nat) : Int))
    have m1 := n1.far (p := ⟨w.heap.size + 1 + 1, 0, none⟩) (by (try dsimp only); omega) (.int .u64 ((mulHi x (lim Q j.1) + carry64 (mulLo x (lim Q j.1)) (lim st.1 (off + j.1)) 0 + carry64 (add64 (mulLo x (lim Q j.1)) (lim st.1 (off + j.1)) 0) st.2 0 : Nat) : Int))
    have m2 := n2.far (p := ⟨w.heap.size + 1 + 1, 0, none⟩) (by (try dsimp only); omega) (.int .u64 ((mulHi x (lim Q j.1) + carry64 (mulLo x (lim Q j.1)) (lim st.1 (off + j.1)) 0 + carry64 (add64 (mulLo x (lim Q j.1)) (lim st.1 (off + j.1)) 0) st.2 0 : Nat) : Int))
    have m3 := n3.set (.int .u64 ((mulHi x (lim Q j.1) + carry64 (mulLo x (lim Q j.1)) (lim st.1 (off + j.1)) 0 + carry64 (add64 (mulLo x (lim Q j.1)) (lim st.1 (off + j.1)) 0) st.2 0 : Nat) : Int))
    have mO := (hO.set (p := ⟨S, off + j.1, none⟩) (.inl rfl) (.int .u64 (add64 (add64 (mulLo x (lim Q j.1)) (lim st.1 (off + j.1)) 0) st.2 0 : Nat))).set (p := ⟨w.heap.size + 1 + 1, 0, none⟩) (.inr (by (try dsimp only); omega)) (.int .u64 ((mulHi x (lim Q j.1) + carry64 (mulLo x (lim Q j.1)) (lim st.1 (off + j.1)) 0 + carry64 (add64 (mulLo x (lim Q j.1)) (lim st.1 (off + j.1)) 0) st.2 0 : Nat) : Int))
    gi_wp2_with (refine ⟨trivial, ?_⟩; gi_at_call 114; refine (CallsIn.inRound l (callsIn_wide.2 (mul64_calls x (lim Q j.1) hx hy _))).mono ?_; rintro e w' ⟨rfl, rfl⟩)
    refine region_round hmx (by kernel_rfl) (by rintro ⟨_, _, h⟩; exact h) (fun u => u.cell? ⟨w.heap.size, 0, none⟩ = some (.slice (some ⟨S, off, none⟩) Q.length cap)) k1 (fun hHeld => ?_)
    refine wpAnyH_take (i := 1) (v := ?_) rfl (by kernel_rfl) (by kernel_rfl) (by kernel_rfl) (fun _ _ _ h => h) (Or.inl ⟨by rfl, ?_⟩) (by assumption) ?_
    rotate_left
    · (intro _ hSw; (try dsimp only at hSw); (first | (go_simp; done) | (go_simp; with_reducible rfl)))
    try simp only [Act.put, List.getElem_toArray, List.getElem_cons_zero, List.getElem_cons_succ, List.setIfInBounds_toArray, List.set_cons_zero, List.set_cons_succ]
    refine wpAnyH_take (i := 2) (v := ?_) rfl (by kernel_rfl) (by kernel_rfl) (by kernel_rfl) (fun _ _ _ h => h) (Or.inl ⟨by rfl, ?_⟩) (by assumption) ?_
    rotate_left
    · (intro _ hSw; (try dsimp only at hSw); (first | (go_simp; done) | (go_simp; with_reducible rfl)))
    try simp only [Act.put, List.getElem_toArray, List.getElem_cons_zero, List.getElem_cons_succ, List.setIfInBounds_toArray, List.set_cons_zero, List.set_cons_succ]
    refine wpAnyH_take (i := 0) (v := ?_) rfl (by kernel_rfl) (by kernel_rfl) (by kernel_rfl) (fun _ _ _ h => h) (Or.inl ⟨by rfl, ?_⟩) (by assumption) ?_
    rotate_left
    · (intro _ hSw; (try dsimp only at hSw); (first | (go_simp; done) | (go_simp; with_reducible rfl)))
    try simp only [Act.put, List.getElem_toArray, List.getElem_cons_zero, List.setIfInBounds_toArray, List.set_cons_zero, List.set_cons_succ]
    refine wpAnyH_ready (rs := [3]) (by kernel_rfl) (by simp) ?_
    refine AllReadyH.cons rfl (fun K hK => ?_) AllReadyH.nil
    go_simp
    refine hK.out _ _ hHeld (fun hHeld => ?_)
    clear hK K
    try simp only [Act.put, List.getElem_toArray, List.getElem_cons_zero, List.getElem_cons_succ, List.setIfInBounds_toArray, List.set_cons_zero, List.set_cons_succ]
    refine wpAnyH_ready (rs := [4]) (by kernel_rfl) (by simp) ?_
    refine AllReadyH.cons rfl (fun K hK => ?_) AllReadyH.nil
    go_simp
    refine hK.out _ _ hHeld (fun hHeld => ?_)
    clear hK K
    try simp only [Act.put, List.getElem_toArray, List.getElem_cons_zero, List.getElem_cons_succ, List.setIfInBounds_toArray, List.set_cons_zero, List.set_cons_succ]
    refine wpAnyH_take (i := 5) (v := ?_) rfl (by kernel_rfl) (by kernel_rfl) (by kernel_rfl) (fun _ _ _ h => h) (Or.inl ⟨by rfl, ?_⟩) (by assumption) ?_
    rotate_left
    · (intro _ hSw; (try dsimp only at hSw); (first | (go_simp; done) | (go_simp; with_reducible rfl)))
    try simp only [Act.put, List.getElem_toArray, List.getElem_cons_zero, List.getElem_cons_succ, List.setIfInBounds_toArray, List.set_cons_zero, List.set_cons_succ]
    refine wpAnyH_take (i := 6) (v := ?_) rfl (by kernel_rfl) (by kernel_rfl) (by kernel_rfl) (fun _ _ _ h => h) (Or.inl ⟨by rfl, ?_⟩) (by assumption) ?_
    rotate_left
    · (intro _ hSw; (try dsimp only at hSw); (first | (go_simp; done) | (go_simp; with_reducible rfl)))
    try simp only [Act.put, List.getElem_toArray, List.getElem_cons_zero, List.getElem_cons_succ, List.setIfInBounds_toArray, List.set_cons_zero, List.set_cons_succ]
    refine wpAnyH_take (i := 7) (v := ?_) rfl (by kernel_rfl) (by kernel_rfl) (by kernel_rfl) (fun _ _ _ h => h) (Or.inl ⟨by rfl, ?_⟩) (by assumption) ?_
    rotate_left
    · (intro _ hSw; (try dsimp only at hSw); (first | (go_simp; done) | (go_simp; with_reducible rfl)))
    try simp only [Act.put, List.getElem_toArray, List.getElem_cons_zero, List.getElem_cons_succ, List.setIfInBounds_toArray, List.set_cons_zero, List.set_cons_succ]
    refine wpAnyH_take (i := 8) (v := ?_) rfl (by kernel_rfl) (by kernel_rfl) (by kernel_rfl) (fun _ _ _ h => h) (Or.inl ⟨by rfl, ?_⟩) (by assumption) ?_
    rotate_left
    · (intro _ hSw; (try dsimp only at hSw); (first | (go_simp; done) | (go_simp; with_reducible rfl)))
    try simp only [Act.put, List.getElem_toArray, List.getElem_cons_zero, List.getElem_cons_succ, List.setIfInBounds_toArray, List.set_cons_zero, List.set_cons_succ]
    refine wpAnyH_ready (rs := [9]) (by kernel_rfl) (by simp) ?_
    refine AllReadyH.cons rfl (fun K hK => ?_) AllReadyH.nil
    go_simp
    refine hK.out _ _ n1.cell (fun hHeld => ?_)
    clear hK K
    try simp only [Act.put, List.getElem_toArray, List.getElem_cons_zero, List.getElem_cons_succ, List.setIfInBounds_toArray, List.set_cons_zero, List.set_cons_succ]
    refine wpAnyH_ready (rs := [10]) (by kernel_rfl) (by simp) ?_
    refine AllReadyH.cons rfl (fun K hK => ?_) AllReadyH.nil
    go_simp
    refine hK.out _ _ n1.cell (fun hHeld => ?_)
    clear hK K
    try simp only [Act.put, List.getElem_toArray, List.getElem_cons_zero, List.getElem_cons_succ, List.setIfInBounds_toArray, List.set_cons_zero, List.set_cons_succ]
    refine wpAnyH_done (by kernel_rfl) ?_ _
    gi_wp2
    exact ⟨(((KeepsOthers.setCell _ _ _).trans (KeepsOthers.setCell _ _ _)).trans (KeepsOthers.drew _)).from _, (((Keep.refl _ _ _).set (by (try dsimp only); omega) (by (try dsimp only); omega) _).set (by (try dsimp only); omega) (by (try dsimp only); omega) _).drew, ⟨by rw [hSt.out]; exact mr, m1, m2, by rw [hSt.out]; exact m3⟩, mO.drew⟩
  case done =>
    rintro D ys W hD hys ⟨⟨hr, c1, c2, c3⟩, hO⟩ hK
    simp only [World.size_alloc] at hD
    rw [hys] at hr c3
    clear hys
    have k3 := c3.cell
    have hSD : S ≠ D := by omega
    gi_wp2
    refine ⟨by simp, .inl ⟨_, _, rfl, run_takeDeferred hK, ?_⟩⟩
    refine ⟨_, results_tmp rfl _ _ _, rfl, hr.put hSD _, hO.below (belowK_b (w := w) (Nat.le_refl _) W D _ _ (by omega) hK rfl rfl)⟩
  case stop =>
    rintro D c pre W _ _ h _
    exact h.elim
theorem addRow_calls (S off cap bQ : Nat) (vq : Value) (s Q : List Nat) (x : Nat) (hs : Low 18446744073709551616 s) (hQ : Low 18446744073709551616 Q) (hx : x < 18446744073709551616) (hoff : off + Q.length ≤ s.length) (hcap : Q.length ≤ cap) (hQl : Q.length ≤ 9223372036854775806)
    (w : World) (hS : Row .u64 32 w S s) (hbQ : bQ < w.heap.size) (hne : bQ ≠ S) (hB : RdAt bQ w vq Q) :
    Calls Try.prog 160 #[.slice (some ⟨S, off, none⟩) Q.length cap, vq, .int .u64 x] w fun e W' => e = .returned (.int .u64 ((rowRun Q x off s (List.range Q.length)).2 : Int)) ∧ Row .u64 32 W' S (rowRun Q x off s (List.range Q.length)).1 ∧ Off S w W' :=
  callsIn_wide.1 (addRow_in 6 (Nat.le_refl _) S off cap bQ vq s Q x hs hQ hx hoff hcap hQl w hS hbQ hne hB)
end Go.Proofs.Ytdcebkhdnhdejaa
