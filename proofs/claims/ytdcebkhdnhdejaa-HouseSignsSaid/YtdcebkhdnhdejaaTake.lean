/- natdiv.takeRow: a list times a word, taken off a row; natdiv.putRow: a list, put back. -/
import Derived.Test.YtdcebkhdnhdejaaState
namespace Go.Proofs.Ytdcebkhdnhdejaa
open Go.RowKit Go.Shelf

attribute [local go_sem] Oper.semAt_some

set_option maxRecDepth 100000 in
set_option maxHeartbeats 4000000 in
theorem takeRow_in (n : Nat) (hn : 6 ≤ n) (S off cap bQ : Nat) (vq : Value) (s Q : List Nat) (x : Nat) (hs : Low 18446744073709551616 s) (hQ : Low 18446744073709551616 Q) (hx : x < 18446744073709551616) (hoff : off + Q.length ≤ s.length) (_hcap : Q.length ≤ cap) (hQl : Q.length ≤ 9223372036854775806)
    (w : World) (hS : Row .u64 32 w S s) (hbQ : bQ < w.heap.size) (hne : bQ ≠ S) (hB : RdAt bQ w vq Q) :
    CallsIn Fence.wide n Try.prog 180 #[.slice (some ⟨S, off, none⟩) Q.length cap, vq, .int .u64 (x : Int)] w fun e W' => e = .returned (.int .u64 ((tkS Q x off s Q.length).2 : Int)) ∧ Row .u64 32 W' S (tkS Q x off s Q.length).1 ∧ Off S w W' := by
  have h1 : 1 ≤ n := by omega
  have hmx := follows
  have hSl := hS.lt
  obtain ⟨aQ, capQ, rfl, hcapQ, hsome⟩ := hB.slice
  obtain ⟨oQ, ha⟩ : ∃ oQ, 0 < Q.length → aQ = some ⟨bQ, oQ, none⟩ := by
    by_cases h : 0 < Q.length
    · obtain ⟨oQ, h2⟩ := hsome h; exact ⟨oQ, fun _ => h2⟩
    · exact ⟨0, fun h2 => absurd h2 h⟩
  clear hsome
  refine callsIn_of_wp_marks Try.func180 rfl trivial ?_ rfl
  simp only [Try.ntmps180, List.size_toArray, List.length_cons, List.length_nil, Nat.reduceAdd, Nat.reduceSub, Array.replicate_succ, Array.replicate_zero, List.push_toArray, List.append_toArray, List.nil_append, List.cons_append]
  gi_wp2_with (refine ⟨trivial, ?_⟩; gi_at_call 172; refine (nup_in Fence.wide (n - 1) trivial rfl _ _ _ _).mono ?_; rintro e w' ⟨rfl, rfl⟩)
  have r0 := ((((hS.alloc (.cells #[.slice (some ⟨S, off, none⟩) Q.length cap] 22)).alloc (.cells #[.int .u64 (x : Int)] 32)).alloc (.cells #[.int .u64 0] 32)).alloc (.cells #[.slice aQ Q.length capQ] 22))
  have b1 := ((((Boxed.new w 22 (.slice (some ⟨S, off, none⟩) Q.length cap)).alloc (.cells #[.int .u64 (x : Int)] 32)).alloc (.cells #[.int .u64 0] 32)).alloc (.cells #[.slice aQ Q.length capQ] 22))
  have b2 := (((Boxed.new (w.alloc (.cells #[.slice (some ⟨S, off, none⟩) Q.length cap] 22)) 32 (.int .u64 (x : Int))).alloc (.cells #[.int .u64 0] 32)).alloc (.cells #[.slice aQ Q.length capQ] 22))
  have b3 := ((Boxed.new ((w.alloc (.cells #[.slice (some ⟨S, off, none⟩) Q.length cap] 22)).alloc (.cells #[.int .u64 (x : Int)] 32)) 32 (.int .u64 0)).alloc (.cells #[.slice aQ Q.length capQ] 22))
  have b4 := (Boxed.new (((w.alloc (.cells #[.slice (some ⟨S, off, none⟩) Q.length cap] 22)).alloc (.cells #[.int .u64 (x : Int)] 32)).alloc (.cells #[.int .u64 0] 32)) 22 (.slice aQ Q.length capQ))
  have hB0 : Below w.heap.size w ((((w.alloc (.cells #[.slice (some ⟨S, off, none⟩) Q.length cap] 22)).alloc (.cells #[.int .u64 (x : Int)] 32)).alloc (.cells #[.int .u64 0] 32)).alloc (.cells #[.slice aQ Q.length capQ] 22)) := (((((Below.refl _ w).alloc (Nat.le_refl _) _).alloc (by simp) _).alloc (by simp; omega) _).alloc (by simp; omega) _)
  have hO0 := (Off.refl S w).below hB0
  simp only [World.size_alloc] at b1 b2 b3 b4
  have hW0 : ((((w.alloc (.cells #[.slice (some ⟨S, off, none⟩) Q.length cap] 22)).alloc (.cells #[.int .u64 (x : Int)] 32)).alloc (.cells #[.int .u64 0] 32)).alloc (.cells #[.slice aQ Q.length capQ] 22)).heap.size = w.heap.size + 1 + 1 + 1 + 1 := by simp
  generalize ((((w.alloc (.cells #[.slice (some ⟨S, off, none⟩) Q.length cap] 22)).alloc (.cells #[.int .u64 (x : Int)] 32)).alloc (.cells #[.int .u64 0] 32)).alloc (.cells #[.slice aQ Q.length capQ] 22)) = W0 at *
  refine wpIn_range (σ := Pl Q.length) rfl h1 (gf := 178) (lb := #[.pointer (some ⟨w.heap.size + 1 + 1 + 1, 0, none⟩)]) rfl trivial (enters_of Try.func178 (by kernel_rfl) rfl)
    (encs := encU Q) (fun _ => rfl) (tkI Q s x S off cap (.slice aQ Q.length capQ) w 0) (fun s' => tkI Q s x S off cap (.slice aQ Q.length capQ) w (s'.1 + 1)) (fun s' => tkI Q s x S off cap (.slice aQ Q.length capQ) w s'.1) (tkI Q s x S off cap (.slice aQ Q.length capQ) w Q.length) (fun _ _ => False)
    (tkI_steady _ _ _ _ _ _ _ _ _ (by omega)) (fun _ => tkI_steady _ _ _ _ _ _ _ _ _ (by omega)) (fun _ => tkI_steady _ _ _ _ _ _ _ _ _ (by omega)) (tkI_steady _ _ _ _ _ _ _ _ _ (by omega)) (fun _ => steady_pure)
    ⟨⟨r0, b1, b2, b3, b4⟩, hO0⟩ ?seq ?a1 ?assign ?body ?done ?stop
  case seq =>
    intro l X Xz W hl hXs hI0 hX hY
    exact nup_st Fence.wide (n - 1) trivial rfl (by omega) l (w.heap.size + 1 + 1 + 1) bQ oQ capQ Q.length aQ ha (by omega) (fun k => (lim Q k : Int)) (tkI Q s x S off cap (.slice aQ Q.length capQ) w) X _ Xz
      (fun k W _ h => h.1.2.2.2.2.cell)
      (fun k W hk h => by
        obtain rfl := ha (by omega)
        have hk2 := h.2.block bQ hbQ hne
        exact (World.cell?_of_block (w := w) hk2).trans (hB.cell hk))
      (fun k U hk h hx => hY ⟨k, hk⟩ U h hx) W hI0 hX
  case assign =>
    intro l x W K hK
    gi_wp2
    exact hK
  case body =>
    rintro l j W hl ⟨⟨hr, c1, c2, c3, c4⟩, hO⟩
    obtain ⟨k, hk⟩ := j
    dsimp only at *
    have hd0 : 1 ≤ n - 1 - 1 := by omega
    obtain ⟨f1, f2, f3, f4⟩ := tk_fine off hQ hs hx k
    have hy := lim_lt hQ (by decide) k
    have hsj := lim_lt f3 (by decide) (off + k)
    have hst1 : Hid ((tkS Q x off s (k + 1)).1 = (tkS Q x off s k).1.set (off + k) (sub64 (lim (tkS Q x off s k).1 (off + k)) (tkLow x (lim Q k) (tkS Q x off s k).2) 0)) := Lib.hid rfl
    have hst2 : Hid ((tkS Q x off s (k + 1)).2 = tkHigh x (lim Q k) (tkS Q x off s k).2 + borrow64 (lim (tkS Q x off s k).1 (off + k)) (tkLow x (lim Q k) (tkS Q x off s k).2) 0) := Lib.hid rfl
    obtain ⟨_, mb2, mb3, mb4⟩ := tk_bound hx hy hsj f2
    generalize tkS Q x off s k = st at *
    have kr := hr.cell (i := off + k) (by omega)
    have gr := hr.frozen (off + k)
    have F1 := Lib.hid f1
    have F4 := Lib.hid f4
    clear f1 f4
    generalize hLe : tkLow x (lim Q k) st.2 = L at *
    generalize hHe : tkHigh x (lim Q k) st.2 = Hh at *
    have h64a : ∀ u : World, (callFunc 166 #[.int .u64 (mulLo x (lim Q k) : Int), .int .u64 (st.2 : Int), .int .u64 0]).run Try.prog u = .ok (.value (.tuple #[.int .u64 (L : Int), .int .u64 (carry64 (mulLo x (lim Q k)) st.2 0 : Int)])) u := by rw [← hLe]; exact add64_run _ _ 0 (by omega)
    have hHs : (mulHi x (lim Q k) : Int) + (carry64 (mulLo x (lim Q k)) st.2 0 : Int) = (Hh : Int) := by rw [← hHe, tkHigh]; simp
    have HLe := Lib.hid hLe
    have HHe := Lib.hid hHe
    clear hLe hHe
    generalize lim st.1 (off + k) = o at *
    have h64b : ∀ u : World, (callFunc 140 #[.int .u64 (o : Int), .int .u64 (L : Int), .int .u64 0]).run Try.prog u = .ok (.value (.tuple #[.int .u64 (sub64 o L 0 : Int), .int .u64 (borrow64 o L 0 : Int)])) u := sub64_run _ _ 0 (by omega)
    generalize hde : sub64 o L 0 = d at *
    generalize hbe : borrow64 o L 0 = bo at *
    have HDE := Lib.hid hde
    have HBE := Lib.hid hbe
    clear hde hbe
    have hfn1 : Fence.wide.fn 166 := trivial
    have hfn2 : Fence.wide.fn 140 := trivial
    have k1 := c1.cell
    have k2 := c2.cell
    have k3 := c3.cell
    have nr := hr.set (off + k) d
    have n1 := c1.far (p := ⟨S, off + k, none⟩) (by (try dsimp only); omega) (.int .u64 (d : Int))
    have n2 := c2.far (p := ⟨S, off + k, none⟩) (by (try dsimp only); omega) (.int .u64 (d : Int))
    have n3 := c3.far (p := ⟨S, off + k, none⟩) (by (try dsimp only); omega) (.int .u64 (d : Int))
    have n4 := c4.far (p := ⟨S, off + k, none⟩) (by (try dsimp only); omega) (.int .u64 (d : Int))
    have nO := hO.set (p := ⟨S, off + k, none⟩) (.inl rfl) (.int .u64 (d : Int))
    have kn := n3.cell
    have gn := n3.frozen
    have m1 := n1.far (p := ⟨w.heap.size + 1 + 1, 0, none⟩) (by (try dsimp only); omega) (.int .u64 ((Hh + bo : Nat) : Int))
    have m2 := n2.far (p := ⟨w.heap.size + 1 + 1, 0, none⟩) (by (try dsimp only); omega) (.int .u64 ((Hh + bo : Nat) : Int))
    have m4 := n4.far (p := ⟨w.heap.size + 1 + 1, 0, none⟩) (by (try dsimp only); omega) (.int .u64 ((Hh + bo : Nat) : Int))
    have mr := nr.far (p := ⟨w.heap.size + 1 + 1, 0, none⟩) (by (try dsimp only); omega) (.int .u64 ((Hh + bo : Nat) : Int))
    have m3 := n3.set (.int .u64 ((Hh + bo : Nat) : Int))
    have mO := nO.set (p := ⟨w.heap.size + 1 + 1, 0, none⟩) (.inr (by (try dsimp only); omega)) (.int .u64 ((Hh + bo : Nat) : Int))
    gi_wp2_with (refine ⟨trivial, ?_⟩; gi_at_call 114; refine (CallsIn.inRound l (callsIn_wide.2 (mul64_calls x (lim Q k) hx hy _))).mono ?_; rintro e w' ⟨rfl, rfl⟩)
    refine region_round hmx (by kernel_rfl) (by rintro ⟨_, _, h⟩; exact h) (fun u => u.cell? ⟨w.heap.size, 0, none⟩ = some (.slice (some ⟨S, off, none⟩) Q.length cap)) k1 (fun hHeld => ?_)
    refine wpAnyH_take (i := 0) (v := ?_) rfl (by kernel_rfl) (by kernel_rfl) (by kernel_rfl) (fun _ _ _ h => h) (Or.inl ⟨by rfl, ?_⟩) (by assumption) ?_
    rotate_left
    · (intro _ hSw; (try dsimp only at hSw); (first | (go_simp; done) | (go_simp; with_reducible rfl)))
    try simp only [Act.put, List.getElem_toArray, List.getElem_cons_zero, List.setIfInBounds_toArray, List.set_cons_zero, List.set_cons_succ]
    refine wpAnyH_take (i := 1) (v := ?_) rfl (by kernel_rfl) (by kernel_rfl) (by kernel_rfl) (fun _ _ _ h => h) (Or.inl ⟨by rfl, ?_⟩) (by assumption) ?_
    rotate_left
    · (intro _ hSw; (try dsimp only at hSw); (first | (go_simp; done) | (go_simp; with_reducible rfl)))
    try simp only [Act.put, List.getElem_toArray, List.getElem_cons_zero, List.getElem_cons_succ, List.setIfInBounds_toArray, List.set_cons_zero, List.set_cons_succ]
    refine wpAnyH_take (i := 2) (v := ?_) rfl (by kernel_rfl) (by kernel_rfl) (by kernel_rfl) (fun _ _ _ h => h) (Or.inl ⟨by rfl, ?_⟩) (by assumption) ?_
    rotate_left
    · (intro _ hSw; (try dsimp only at hSw); (first | (go_simp; done) | (go_simp; with_reducible rfl)))
    try simp only [Act.put, List.getElem_toArray, List.getElem_cons_zero, List.getElem_cons_succ, List.setIfInBounds_toArray, List.set_cons_zero, List.set_cons_succ]
    refine wpAnyH_take (i := 3) (v := ?_) rfl (by kernel_rfl) (by kernel_rfl) (by kernel_rfl) (fun _ _ _ h => h) (Or.inl ⟨by rfl, ?_⟩) (by assumption) ?_
    rotate_left
    · (intro _ hSw; (try dsimp only at hSw); (first | (go_simp; done) | (go_simp; with_reducible rfl)))
    try simp only [Act.put, List.getElem_toArray, List.getElem_cons_zero, List.getElem_cons_succ, List.setIfInBounds_toArray, List.set_cons_zero, List.set_cons_succ]
    refine wpAnyH_take (i := 4) (v := ?_) rfl (by kernel_rfl) (by kernel_rfl) (by kernel_rfl) (fun _ _ _ h => h) (Or.inl ⟨by rfl, ?_⟩) (by assumption) ?_
    rotate_left
    · (intro _ hSw; (try dsimp only at hSw); (first | (go_simp; done) | (go_simp; with_reducible rfl)))
    try simp only [Act.put, List.getElem_toArray, List.getElem_cons_zero, List.getElem_cons_succ, List.setIfInBounds_toArray, List.set_cons_zero, List.set_cons_succ]
    refine wpAnyH_take (i := 6) (v := ?_) rfl (by kernel_rfl) (by kernel_rfl) (by kernel_rfl) (fun _ _ _ h => h) (Or.inl ⟨by rfl, ?_⟩) (by assumption) ?_
    rotate_left
    · (intro _ hSw; (try dsimp only at hSw); (first | (go_simp; done) | (go_simp; with_reducible rfl)))
    try simp only [Act.put, List.getElem_toArray, List.getElem_cons_zero, List.getElem_cons_succ, List.setIfInBounds_toArray, List.set_cons_zero, List.set_cons_succ]
    refine wpAnyH_ready (rs := [5]) (by kernel_rfl) (by simp) ?_
    refine AllReadyH.cons rfl (fun K hK => ?_) AllReadyH.nil
    go_simp
    refine hK.out _ _ hHeld (fun hHeld => ?_)
    clear hK K
    try simp only [Act.put, List.getElem_toArray, List.getElem_cons_zero, List.getElem_cons_succ, List.setIfInBounds_toArray, List.set_cons_zero, List.set_cons_succ]
    refine wpAnyH_ready (rs := [7]) (by kernel_rfl) (by simp) ?_
    refine AllReadyH.cons rfl (fun K hK => ?_) AllReadyH.nil
    go_simp
    refine hK.out _ _ hHeld (fun hHeld => ?_)
    clear hK K
    try simp only [Act.put, List.getElem_toArray, List.getElem_cons_zero, List.getElem_cons_succ, List.setIfInBounds_toArray, List.set_cons_zero, List.set_cons_succ]
    refine wpAnyH_ready (rs := [8]) (by kernel_rfl) (by simp) ?_
    refine AllReadyH.cons rfl (fun K hK => ?_) AllReadyH.nil
    go_simp
    refine hK.out _ _ hHeld (fun hHeld => ?_)
    clear hK K
    try simp only [Act.put, List.getElem_toArray, List.getElem_cons_zero, List.getElem_cons_succ, List.setIfInBounds_toArray, List.set_cons_zero, List.set_cons_succ]
    refine wpAnyH_take (i := 9) (v := ?_) rfl (by kernel_rfl) (by kernel_rfl) (by kernel_rfl) (fun _ _ _ h => h) (Or.inl ⟨by rfl, ?_⟩) (by assumption) ?_
    rotate_left
    · (intro _ hSw; (try dsimp only at hSw); (first | (go_simp; done) | (go_simp; with_reducible rfl)))
    try simp only [Act.put, List.getElem_toArray, List.getElem_cons_zero, List.getElem_cons_succ, List.setIfInBounds_toArray, List.set_cons_zero, List.set_cons_succ]
    refine wpAnyH_take (i := 10) (v := ?_) rfl (by kernel_rfl) (by kernel_rfl) (by kernel_rfl) (fun _ _ _ h => h) (Or.inl ⟨by rfl, ?_⟩) (by assumption) ?_
    rotate_left
    · (intro _ hSw; (try dsimp only at hSw); (first | (go_simp; done) | (go_simp; with_reducible rfl)))
    try simp only [Act.put, List.getElem_toArray, List.getElem_cons_zero, List.getElem_cons_succ, List.setIfInBounds_toArray, List.set_cons_zero, List.set_cons_succ]
    refine wpAnyH_take (i := 11) (v := ?_) rfl (by kernel_rfl) (by kernel_rfl) (by kernel_rfl) (fun _ _ _ h => h) (Or.inl ⟨by rfl, ?_⟩) (by assumption) ?_
    rotate_left
    · (intro _ hSw; (try dsimp only at hSw); (first | (go_simp; done) | (go_simp; with_reducible rfl)))
    try simp only [Act.put, List.getElem_toArray, List.getElem_cons_zero, List.getElem_cons_succ, List.setIfInBounds_toArray, List.set_cons_zero, List.set_cons_succ]
    refine wpAnyH_ready (rs := [12]) (by kernel_rfl) (by simp) ?_
    refine AllReadyH.cons rfl (fun K hK => ?_) AllReadyH.nil
    go_simp
    refine hK.out _ _ n1.cell (fun hHeld => ?_)
    clear hK K
    try simp only [Act.put, List.getElem_toArray, List.getElem_cons_zero, List.getElem_cons_succ, List.setIfInBounds_toArray, List.set_cons_zero, List.set_cons_succ]
    refine wpAnyH_ready (rs := [13]) (by kernel_rfl) (by simp) ?_
    refine AllReadyH.cons rfl (fun K hK => ?_) AllReadyH.nil
    go_simp
    refine hK.out _ _ n1.cell (fun hHeld => ?_)
    clear hK K
    try simp only [Act.put, List.getElem_toArray, List.getElem_cons_zero, List.getElem_cons_succ, List.setIfInBounds_toArray, List.set_cons_zero, List.set_cons_succ]
    refine wpAnyH_done (by kernel_rfl) ?_ _
    gi_wp2
    exact ⟨(((KeepsOthers.setCell _ _ _).trans (KeepsOthers.setCell _ _ _)).trans (KeepsOthers.drew _)).from _, ⟨by rw [hst1.out]; exact mr, m1, m2, by rw [hst2.out]; exact m3, m4⟩, mO.drew⟩
  case done =>
    rintro D W hD ⟨⟨hr, c1, c2, c3, c4⟩, hO⟩ hK
    rw [hW0] at hD
    have kk := c3.cell
    have hSD : S ≠ D := by omega
    gi_wp2
    refine ⟨by simp, .inl ⟨_, _, rfl, run_takeDeferred hK, ?_⟩⟩
    exact ⟨_, results_tmp rfl _ _ _, rfl, hr.put hSD _, hO.below (belowK_b (w := w) (Nat.le_refl _) W D _ _ (by omega) hK rfl rfl)⟩
  case stop =>
    rintro D c W _ h _
    exact h.elim
set_option maxRecDepth 100000 in
set_option maxHeartbeats 4000000 in
theorem putRow_in (n : Nat) (hn : 6 ≤ n) (S off cap bQ : Nat) (vq : Value) (s Q : List Nat) (hs : Low 18446744073709551616 s) (hQ : Low 18446744073709551616 Q) (hoff : off + Q.length ≤ s.length) (_hcap : Q.length ≤ cap) (hQl : Q.length ≤ 9223372036854775806)
    (w : World) (hS : Row .u64 32 w S s) (hbQ : bQ < w.heap.size) (hne : bQ ≠ S) (hB : RdAt bQ w vq Q) :
    CallsIn Fence.wide n Try.prog 181 #[.slice (some ⟨S, off, none⟩) Q.length cap, vq] w fun e W' => e = .returned (.int .u64 ((puS Q off s Q.length).2 : Int)) ∧ Row .u64 32 W' S (puS Q off s Q.length).1 ∧ Off S w W' := by
  have h1 : 1 ≤ n := by omega
  have hmx := follows
  have hSl := hS.lt
  obtain ⟨aQ, capQ, rfl, hcapQ, hsome⟩ := hB.slice
  obtain ⟨oQ, ha⟩ : ∃ oQ, 0 < Q.length → aQ = some ⟨bQ, oQ, none⟩ := by
    by_cases h : 0 < Q.length
    · obtain ⟨oQ, h2⟩ := hsome h; exact ⟨oQ, fun _ => h2⟩
    · exact ⟨0, fun h2 => absurd h2 h⟩
  clear hsome
  refine callsIn_of_wp_marks Try.func181 rfl trivial ?_ rfl
  simp only [Try.ntmps181, List.size_toArray, List.length_cons, List.length_nil, Nat.reduceAdd, Nat.reduceSub, Array.replicate_succ, Array.replicate_zero, List.push_toArray, List.append_toArray, List.nil_append, List.cons_append]
  gi_wp2_with (refine ⟨trivial, ?_⟩; gi_at_call 172; refine (nup_in Fence.wide (n - 1) trivial rfl _ _ _ _).mono ?_; rintro e w' ⟨rfl, rfl⟩)
  have r0 := (((hS.alloc (.cells #[.slice (some ⟨S, off, none⟩) Q.length cap] 22)).alloc (.cells #[.int .u64 0] 32)).alloc (.cells #[.slice aQ Q.length capQ] 22))
  have b1 := (((Boxed.new w 22 (.slice (some ⟨S, off, none⟩) Q.length cap)).alloc (.cells #[.int .u64 0] 32)).alloc (.cells #[.slice aQ Q.length capQ] 22))
  have b2 := ((Boxed.new (w.alloc (.cells #[.slice (some ⟨S, off, none⟩) Q.length cap] 22)) 32 (.int .u64 0)).alloc (.cells #[.slice aQ Q.length capQ] 22))
  have b3 := (Boxed.new ((w.alloc (.cells #[.slice (some ⟨S, off, none⟩) Q.length cap] 22)).alloc (.cells #[.int .u64 0] 32)) 22 (.slice aQ Q.length capQ))
  have hB0 : Below w.heap.size w (((w.alloc (.cells #[.slice (some ⟨S, off, none⟩) Q.length cap] 22)).alloc (.cells #[.int .u64 0] 32)).alloc (.cells #[.slice aQ Q.length capQ] 22)) := ((((Below.refl _ w).alloc (Nat.le_refl _) _).alloc (by simp) _).alloc (by simp; omega) _)
  have hO0 := (Off.refl S w).below hB0
  simp only [World.size_alloc] at b1 b2 b3
  have hW0 : (((w.alloc (.cells #[.slice (some ⟨S, off, none⟩) Q.length cap] 22)).alloc (.cells #[.int .u64 0] 32)).alloc (.cells #[.slice aQ Q.length capQ] 22)).heap.size = w.heap.size + 1 + 1 + 1 := by simp
  generalize (((w.alloc (.cells #[.slice (some ⟨S, off, none⟩) Q.length cap] 22)).alloc (.cells #[.int .u64 0] 32)).alloc (.cells #[.slice aQ Q.length capQ] 22)) = W0 at *
  refine wpIn_range (σ := Pl Q.length) rfl h1 (gf := 178) (lb := #[.pointer (some ⟨w.heap.size + 1 + 1, 0, none⟩)]) rfl trivial (enters_of Try.func178 (by kernel_rfl) rfl)
    (encs := encU Q) (fun _ => rfl) (puI Q s S off cap (.slice aQ Q.length capQ) w 0) (fun s' => puI Q s S off cap (.slice aQ Q.length capQ) w (s'.1 + 1)) (fun s' => puI Q s S off cap (.slice aQ Q.length capQ) w s'.1) (puI Q s S off cap (.slice aQ Q.length capQ) w Q.length) (fun _ _ => False)
    (puI_steady _ _ _ _ _ _ _ _ (by omega)) (fun _ => puI_steady _ _ _ _ _ _ _ _ (by omega)) (fun _ => puI_steady _ _ _ _ _ _ _ _ (by omega)) (puI_steady _ _ _ _ _ _ _ _ (by omega)) (fun _ => steady_pure)
    ⟨⟨r0, b1, b2, b3⟩, hO0⟩ ?seq ?a1 ?assign ?body ?done ?stop
  case seq =>
    intro l X Xz W hl hXs hI0 hX hY
    exact nup_st Fence.wide (n - 1) trivial rfl (by omega) l (w.heap.size + 1 + 1) bQ oQ capQ Q.length aQ ha (by omega) (fun k => (lim Q k : Int)) (puI Q s S off cap (.slice aQ Q.length capQ) w) X _ Xz
      (fun k W _ h => h.1.2.2.2.cell)
      (fun k W hk h => by
        obtain rfl := ha (by omega)
        have hk2 := h.2.block bQ hbQ hne
        exact (World.cell?_of_block (w := w) hk2).trans (hB.cell hk))
      (fun k U hk h hx => hY ⟨k, hk⟩ U h hx) W hI0 hX
  case assign =>
    intro l x W K hK
    gi_wp2
    exact hK
  case body =>
    rintro l j W hl ⟨⟨hr, c1, c2, c3⟩, hO⟩
    obtain ⟨k, hk⟩ := j
    dsimp only at *
    have hd0 : 1 ≤ n - 1 - 1 := by omega
    obtain ⟨f1, f2, f3, f4⟩ := pu_fine off hQ hs k
    have hy := lim_lt hQ (by decide) k
    have hsj := lim_lt f3 (by decide) (off + k)
    have hst1 : Hid ((puS Q off s (k + 1)).1 = (puS Q off s k).1.set (off + k) (add64 (lim (puS Q off s k).1 (off + k)) (lim Q k) (puS Q off s k).2)) := Lib.hid rfl
    have hst2 : Hid ((puS Q off s (k + 1)).2 = carry64 (lim (puS Q off s k).1 (off + k)) (lim Q k) (puS Q off s k).2) := Lib.hid rfl
    generalize puS Q off s k = st at *
    have kr := hr.cell (i := off + k) (by omega)
    have gr := hr.frozen (off + k)
    have F1 := Lib.hid f1
    have F4 := Lib.hid f4
    clear f1 f4
    generalize lim st.1 (off + k) = o at *
    have h64a : ∀ u : World, (callFunc 166 #[.int .u64 (o : Int), .int .u64 (lim Q k : Int), .int .u64 (st.2 : Int)]).run Try.prog u = .ok (.value (.tuple #[.int .u64 (add64 o (lim Q k) st.2 : Int), .int .u64 (carry64 o (lim Q k) st.2 : Int)])) u := add64_run _ _ _ (by omega)
    generalize hde : add64 o (lim Q k) st.2 = d at *
    generalize hbe : carry64 o (lim Q k) st.2 = bo at *
    have HDE := Lib.hid hde
    have HBE := Lib.hid hbe
    clear hde hbe
    have hfn1 : Fence.wide.fn 166 := trivial
    have k1 := c1.cell
    have k2 := c2.cell
    have nr := hr.set (off + k) d
    have n1 := c1.far (p := ⟨S, off + k, none⟩) (by (try dsimp only); omega) (.int .u64 (d : Int))
    have n2 := c2.far (p := ⟨S, off + k, none⟩) (by (try dsimp only); omega) (.int .u64 (d : Int))
    have n3 := c3.far (p := ⟨S, off + k, none⟩) (by (try dsimp only); omega) (.int .u64 (d : Int))
    have nO := hO.set (p := ⟨S, off + k, none⟩) (.inl rfl) (.int .u64 (d : Int))
    have kn := n2.cell
    have gn := n2.frozen
    have m1 := n1.far (p := ⟨w.heap.size + 1, 0, none⟩) (by (try dsimp only); omega) (.int .u64 (bo : Int))
    have m3 := n3.far (p := ⟨w.heap.size + 1, 0, none⟩) (by (try dsimp only); omega) (.int .u64 (bo : Int))
    have mr := nr.far (p := ⟨w.heap.size + 1, 0, none⟩) (by (try dsimp only); omega) (.int .u64 (bo : Int))
    have m2 := n2.set (.int .u64 (bo : Int))
    have mO := nO.set (p := ⟨w.heap.size + 1, 0, none⟩) (.inr (by (try dsimp only); omega)) (.int .u64 (bo : Int))
    gi_wp2
    refine region_round hmx (by kernel_rfl) (by rintro ⟨_, _, h⟩; exact h) (fun u => u.cell? ⟨w.heap.size, 0, none⟩ = some (.slice (some ⟨S, off, none⟩) Q.length cap)) k1 (fun hHeld => ?_)
    refine wpAnyH_take (i := 0) (v := ?_) rfl (by kernel_rfl) (by kernel_rfl) (by kernel_rfl) (fun _ _ _ h => h) (Or.inl ⟨by rfl, ?_⟩) (by assumption) ?_
    rotate_left
    · (intro _ hSw; (try dsimp only at hSw); (first | (go_simp; done) | (go_simp; with_reducible rfl)))
    try simp only [Act.put, List.getElem_toArray, List.getElem_cons_zero, List.setIfInBounds_toArray, List.set_cons_zero, List.set_cons_succ]
    refine wpAnyH_take (i := 1) (v := ?_) rfl (by kernel_rfl) (by kernel_rfl) (by kernel_rfl) (fun _ _ _ h => h) (Or.inl ⟨by rfl, ?_⟩) (by assumption) ?_
    rotate_left
    · (intro _ hSw; (try dsimp only at hSw); (first | (go_simp; done) | (go_simp; with_reducible rfl)))
    try simp only [Act.put, List.getElem_toArray, List.getElem_cons_zero, List.getElem_cons_succ, List.setIfInBounds_toArray, List.set_cons_zero, List.set_cons_succ]
    refine wpAnyH_take (i := 2) (v := ?_) rfl (by kernel_rfl) (by kernel_rfl) (by kernel_rfl) (fun _ _ _ h => h) (Or.inl ⟨by rfl, ?_⟩) (by assumption) ?_
    rotate_left
    · (intro _ hSw; (try dsimp only at hSw); (first | (go_simp; done) | (go_simp; with_reducible rfl)))
    try simp only [Act.put, List.getElem_toArray, List.getElem_cons_zero, List.getElem_cons_succ, List.setIfInBounds_toArray, List.set_cons_zero, List.set_cons_succ]
    refine wpAnyH_take (i := 3) (v := ?_) rfl (by kernel_rfl) (by kernel_rfl) (by kernel_rfl) (fun _ _ _ h => h) (Or.inl ⟨by rfl, ?_⟩) (by assumption) ?_
    rotate_left
    · (intro _ hSw; (try dsimp only at hSw); (first | (go_simp; done) | (go_simp; with_reducible rfl)))
    try simp only [Act.put, List.getElem_toArray, List.getElem_cons_zero, List.getElem_cons_succ, List.setIfInBounds_toArray, List.set_cons_zero, List.set_cons_succ]
    refine wpAnyH_take (i := 4) (v := ?_) rfl (by kernel_rfl) (by kernel_rfl) (by kernel_rfl) (fun _ _ _ h => h) (Or.inl ⟨by rfl, ?_⟩) (by assumption) ?_
    rotate_left
    · (intro _ hSw; (try dsimp only at hSw); (first | (go_simp; done) | (go_simp; with_reducible rfl)))
    try simp only [Act.put, List.getElem_toArray, List.getElem_cons_zero, List.getElem_cons_succ, List.setIfInBounds_toArray, List.set_cons_zero, List.set_cons_succ]
    refine wpAnyH_take (i := 6) (v := ?_) rfl (by kernel_rfl) (by kernel_rfl) (by kernel_rfl) (fun _ _ _ h => h) (Or.inl ⟨by rfl, ?_⟩) (by assumption) ?_
    rotate_left
    · (intro _ hSw; (try dsimp only at hSw); (first | (go_simp; done) | (go_simp; with_reducible rfl)))
    try simp only [Act.put, List.getElem_toArray, List.getElem_cons_zero, List.getElem_cons_succ, List.setIfInBounds_toArray, List.set_cons_zero, List.set_cons_succ]
    refine wpAnyH_ready (rs := [5, 7]) (by kernel_rfl) (by simp) ?_
    refine AllReadyH.cons rfl (fun K hK => ?_) (AllReadyH.cons rfl (fun K hK => ?_) AllReadyH.nil)
    · skip
      go_simp
      refine hK.out _ _ hHeld (fun hHeld => ?_)
      clear hK K
      try simp only [Act.put, List.getElem_toArray, List.getElem_cons_zero, List.getElem_cons_succ, List.setIfInBounds_toArray, List.set_cons_zero, List.set_cons_succ]
      refine wpAnyH_ready (rs := [7]) (by kernel_rfl) (by simp) ?_
      refine AllReadyH.cons rfl (fun K hK => ?_) AllReadyH.nil
      go_simp
      refine hK.out _ _ hHeld (fun hHeld => ?_)
      clear hK K
      try simp only [Act.put, List.getElem_toArray, List.getElem_cons_zero, List.getElem_cons_succ, List.setIfInBounds_toArray, List.set_cons_zero, List.set_cons_succ]
      refine wpAnyH_ready (rs := [8]) (by kernel_rfl) (by simp) ?_
      refine AllReadyH.cons rfl (fun K hK => ?_) AllReadyH.nil
      go_simp
      refine hK.out _ _ hHeld (fun hHeld => ?_)
      clear hK K
      try simp only [Act.put, List.getElem_toArray, List.getElem_cons_zero, List.getElem_cons_succ, List.setIfInBounds_toArray, List.set_cons_zero, List.set_cons_succ]
      refine wpAnyH_ready (rs := [9]) (by kernel_rfl) (by simp) ?_
      refine AllReadyH.cons rfl (fun K hK => ?_) AllReadyH.nil
      go_simp
      refine hK.out _ _ hHeld (fun hHeld => ?_)
      clear hK K
      try simp only [Act.put, List.getElem_toArray, List.getElem_cons_zero, List.getElem_cons_succ, List.setIfInBounds_toArray, List.set_cons_zero, List.set_cons_succ]
      refine wpAnyH_take (i := 10) (v := ?_) rfl (by kernel_rfl) (by kernel_rfl) (by kernel_rfl) (fun _ _ _ h => h) (Or.inl ⟨by rfl, ?_⟩) (by assumption) ?_
      rotate_left
      · (intro _ hSw; (try dsimp only at hSw); (first | (go_simp; done) | (go_simp; with_reducible rfl)))
      try simp only [Act.put, List.getElem_toArray, List.getElem_cons_zero, List.getElem_cons_succ, List.setIfInBounds_toArray, List.set_cons_zero, List.set_cons_succ]
      refine wpAnyH_take (i := 11) (v := ?_) rfl (by kernel_rfl) (by kernel_rfl) (by kernel_rfl) (fun _ _ _ h => h) (Or.inl ⟨by rfl, ?_⟩) (by assumption) ?_
      rotate_left
      · (intro _ hSw; (try dsimp only at hSw); (first | (go_simp; done) | (go_simp; with_reducible rfl)))
      try simp only [Act.put, List.getElem_toArray, List.getElem_cons_zero, List.getElem_cons_succ, List.setIfInBounds_toArray, List.set_cons_zero, List.set_cons_succ]
      refine wpAnyH_take (i := 12) (v := ?_) rfl (by kernel_rfl) (by kernel_rfl) (by kernel_rfl) (fun _ _ _ h => h) (Or.inl ⟨by rfl, ?_⟩) (by assumption) ?_
      rotate_left
      · (intro _ hSw; (try dsimp only at hSw); (first | (go_simp; done) | (go_simp; with_reducible rfl)))
      try simp only [Act.put, List.getElem_toArray, List.getElem_cons_zero, List.getElem_cons_succ, List.setIfInBounds_toArray, List.set_cons_zero, List.set_cons_succ]
      refine wpAnyH_ready (rs := [13]) (by kernel_rfl) (by simp) ?_
      refine AllReadyH.cons rfl (fun K hK => ?_) AllReadyH.nil
      go_simp
      refine hK.out _ _ n1.cell (fun hHeld => ?_)
      clear hK K
      try simp only [Act.put, List.getElem_toArray, List.getElem_cons_zero, List.getElem_cons_succ, List.setIfInBounds_toArray, List.set_cons_zero, List.set_cons_succ]
      refine wpAnyH_ready (rs := [14]) (by kernel_rfl) (by simp) ?_
      refine AllReadyH.cons rfl (fun K hK => ?_) AllReadyH.nil
      go_simp
      refine hK.out _ _ m1.cell (fun hHeld => ?_)
      clear hK K
      try simp only [Act.put, List.getElem_toArray, List.getElem_cons_zero, List.getElem_cons_succ, List.setIfInBounds_toArray, List.set_cons_zero, List.set_cons_succ]
      refine wpAnyH_done (by kernel_rfl) ?_ _
      exact ⟨(((KeepsOthers.setCell _ _ _).trans (KeepsOthers.setCell _ _ _)).trans (KeepsOthers.drew _)).from _, ⟨by rw [hst1.out]; exact mr, m1, by rw [hst2.out]; exact m2, m3⟩, mO.drew⟩
    · skip
      go_simp
      refine hK.out _ _ hHeld (fun hHeld => ?_)
      clear hK K
      try simp only [Act.put, List.getElem_toArray, List.getElem_cons_zero, List.getElem_cons_succ, List.setIfInBounds_toArray, List.set_cons_zero, List.set_cons_succ]
      refine wpAnyH_ready (rs := [5]) (by kernel_rfl) (by simp) ?_
      refine AllReadyH.cons rfl (fun K hK => ?_) AllReadyH.nil
      go_simp
      refine hK.out _ _ hHeld (fun hHeld => ?_)
      clear hK K
      try simp only [Act.put, List.getElem_toArray, List.getElem_cons_zero, List.getElem_cons_succ, List.setIfInBounds_toArray, List.set_cons_zero, List.set_cons_succ]
      refine wpAnyH_ready (rs := [8]) (by kernel_rfl) (by simp) ?_
      refine AllReadyH.cons rfl (fun K hK => ?_) AllReadyH.nil
      go_simp
      refine hK.out _ _ hHeld (fun hHeld => ?_)
      clear hK K
      try simp only [Act.put, List.getElem_toArray, List.getElem_cons_zero, List.getElem_cons_succ, List.setIfInBounds_toArray, List.set_cons_zero, List.set_cons_succ]
      refine wpAnyH_ready (rs := [9]) (by kernel_rfl) (by simp) ?_
      refine AllReadyH.cons rfl (fun K hK => ?_) AllReadyH.nil
      go_simp
      refine hK.out _ _ hHeld (fun hHeld => ?_)
      clear hK K
      try simp only [Act.put, List.getElem_toArray, List.getElem_cons_zero, List.getElem_cons_succ, List.setIfInBounds_toArray, List.set_cons_zero, List.set_cons_succ]
      refine wpAnyH_take (i := 10) (v := ?_) rfl (by kernel_rfl) (by kernel_rfl) (by kernel_rfl) (fun _ _ _ h => h) (Or.inl ⟨by rfl, ?_⟩) (by assumption) ?_
      rotate_left
      · (intro _ hSw; (try dsimp only at hSw); (first | (go_simp; done) | (go_simp; with_reducible rfl)))
      try simp only [Act.put, List.getElem_toArray, List.getElem_cons_zero, List.getElem_cons_succ, List.setIfInBounds_toArray, List.set_cons_zero, List.set_cons_succ]
      refine wpAnyH_take (i := 11) (v := ?_) rfl (by kernel_rfl) (by kernel_rfl) (by kernel_rfl) (fun _ _ _ h => h) (Or.inl ⟨by rfl, ?_⟩) (by assumption) ?_
      rotate_left
      · (intro _ hSw; (try dsimp only at hSw); (first | (go_simp; done) | (go_simp; with_reducible rfl)))
      try simp only [Act.put, List.getElem_toArray, List.getElem_cons_zero, List.getElem_cons_succ, List.setIfInBounds_toArray, List.set_cons_zero, List.set_cons_succ]
      refine wpAnyH_take (i := 12) (v := ?_) rfl (by kernel_rfl) (by kernel_rfl) (by kernel_rfl) (fun _ _ _ h => h) (Or.inl ⟨by rfl, ?_⟩) (by assumption) ?_
      rotate_left
      · (intro _ hSw; (try dsimp only at hSw); (first | (go_simp; done) | (go_simp; with_reducible rfl)))
      try simp only [Act.put, List.getElem_toArray, List.getElem_cons_zero, List.getElem_cons_succ, List.setIfInBounds_toArray, List.set_cons_zero, List.set_cons_succ]
      refine wpAnyH_ready (rs := [13]) (by kernel_rfl) (by simp) ?_
      refine AllReadyH.cons rfl (fun K hK => ?_) AllReadyH.nil
      go_simp
      refine hK.out _ _ n1.cell (fun hHeld => ?_)
      clear hK K
      try simp only [Act.put, List.getElem_toArray, List.getElem_cons_zero, List.getElem_cons_succ, List.setIfInBounds_toArray, List.set_cons_zero, List.set_cons_succ]
      refine wpAnyH_ready (rs := [14]) (by kernel_rfl) (by simp) ?_
      refine AllReadyH.cons rfl (fun K hK => ?_) AllReadyH.nil
      go_simp
      refine hK.out _ _ m1.cell (fun hHeld => ?_)
      clear hK K
      try simp only [Act.put, List.getElem_toArray, List.getElem_cons_zero, List.getElem_cons_succ, List.setIfInBounds_toArray, List.set_cons_zero, List.set_cons_succ]
      refine wpAnyH_done (by kernel_rfl) ?_ _
      exact ⟨(((KeepsOthers.setCell _ _ _).trans (KeepsOthers.setCell _ _ _)).trans (KeepsOthers.drew _)).from _, ⟨by rw [hst1.out]; exact mr, m1, by rw [hst2.out]; exact m2, m3⟩, mO.drew⟩
  case done =>
    rintro D W hD ⟨⟨hr, c1, c2, c3⟩, hO⟩ hK
    rw [hW0] at hD
    have kk := c2.cell
    have hSD : S ≠ D := by omega
    gi_wp2
    refine ⟨by simp, .inl ⟨_, _, rfl, run_takeDeferred hK, ?_⟩⟩
    exact ⟨_, results_tmp rfl _ _ _, rfl, hr.put hSD _, hO.below (belowK_b (w := w) (Nat.le_refl _) W D _ _ (by omega) hK rfl rfl)⟩
  case stop =>
    rintro D c W _ h _
    exact h.elim
theorem takeRow_calls (S off cap bQ : Nat) (vq : Value) (s Q : List Nat) (x : Nat) (hs : Low 18446744073709551616 s) (hQ : Low 18446744073709551616 Q) (hx : x < 18446744073709551616) (hoff : off + Q.length ≤ s.length) (hcap : Q.length ≤ cap) (hQl : Q.length ≤ 9223372036854775806)
    (w : World) (hS : Row .u64 32 w S s) (hbQ : bQ < w.heap.size) (hne : bQ ≠ S) (hB : RdAt bQ w vq Q) :
    Calls Try.prog 180 #[.slice (some ⟨S, off, none⟩) Q.length cap, vq, .int .u64 (x : Int)] w fun e W' => e = .returned (.int .u64 ((tkS Q x off s Q.length).2 : Int)) ∧ Row .u64 32 W' S (tkS Q x off s Q.length).1 ∧ Off S w W' :=
  callsIn_wide.1 (takeRow_in 6 (Nat.le_refl _) S off cap bQ vq s Q x hs hQ hx hoff hcap hQl w hS hbQ hne hB)
theorem putRow_calls (S off cap bQ : Nat) (vq : Value) (s Q : List Nat) (hs : Low 18446744073709551616 s) (hQ : Low 18446744073709551616 Q) (hoff : off + Q.length ≤ s.length) (hcap : Q.length ≤ cap) (hQl : Q.length ≤ 9223372036854775806)
    (w : World) (hS : Row .u64 32 w S s) (hbQ : bQ < w.heap.size) (hne : bQ ≠ S) (hB : RdAt bQ w vq Q) :
    Calls Try.prog 181 #[.slice (some ⟨S, off, none⟩) Q.length cap, vq] w fun e W' => e = .returned (.int .u64 ((puS Q off s Q.length).2 : Int)) ∧ Row .u64 32 W' S (puS Q off s Q.length).1 ∧ Off S w W' :=
  callsIn_wide.1 (putRow_in 6 (Nat.le_refl _) S off cap bQ vq s Q hs hQ hoff hcap hQl w hS hbQ hne hB)
end Go.Proofs.Ytdcebkhdnhdejaa
