/- natdiv.takeOff: a number taken away from a greater one, in its own memory. -/
import Derived.Test.YtfbnpdlkbabmfaaDoorZeros
import Derived.IntWalk
namespace Go.Proofs.YtfbnpdlkbabmfaaDoor
open Go.RowKit Go.Shelf

attribute [local go_sem] Oper.semAt_some

/-- k words are taken away: (the words, what is borrowed) -/
def tfS (xs ys : List Nat) : Nat → List Nat × Nat
  | 0 => (xs, 0)
  | k + 1 => ((tfS xs ys k).1.set k (sub64 (lim xs k) (lim ys k) (tfS xs ys k).2), borrow64 (lim xs k) (lim ys k) (tfS xs ys k).2)
theorem sub64_eq {x y c : Nat} (hx : x < 18446744073709551616) (hy : y < 18446744073709551616) (hc : c ≤ 1) : sub64 x y c + y + c = x + 18446744073709551616 * borrow64 x y c := by
  unfold sub64 borrow64
  split <;> omega
theorem tf_fine {xs ys : List Nat} (hx : Low 18446744073709551616 xs) (hy : Low 18446744073709551616 ys) (k : Nat) (hk : k ≤ xs.length) :
    (tfS xs ys k).1.length = xs.length ∧ (tfS xs ys k).2 ≤ 1 ∧ Low 18446744073709551616 (tfS xs ys k).1 ∧ (∀ i, k ≤ i → lim (tfS xs ys k).1 i = lim xs i) ∧
      part 18446744073709551616 (tfS xs ys k).1 k + part 18446744073709551616 ys k = part 18446744073709551616 xs k + 18446744073709551616 ^ k * (tfS xs ys k).2 := by
  induction k with
  | zero => exact ⟨rfl, by simp [tfS], hx, fun _ _ => rfl, by simp [part, tfS]⟩
  | succ k ih =>
    obtain ⟨h1, h2, h3, h4, h5⟩ := ih (by omega)
    have e := sub64_eq (lim_lt hx (by decide) k) (lim_lt hy (by decide) k) h2
    simp only [tfS]
    generalize tfS xs ys k = s at *
    refine ⟨by simp [h1], by unfold borrow64; split <;> omega, low_set h3 (Nat.mod_lt _ (by decide)), fun i hi => ?_, ?_⟩
    · rw [lim_set, if_neg (by omega)]
      exact h4 i (by omega)
    · simp only [part]
      rw [part_set_ge (Nat.le_refl _), lim_set, if_pos ⟨rfl, by omega⟩, Nat.pow_succ, Nat.mul_assoc]
      have hm := congrArg (18446744073709551616 ^ k * ·) e
      simp only [Nat.mul_add] at hm
      omega
theorem tf_all {xs ys : List Nat} (hx : Low 18446744073709551616 xs) (hy : Low 18446744073709551616 ys) (hl : ys.length ≤ xs.length) (hv : val 18446744073709551616 ys ≤ val 18446744073709551616 xs) :
    val 18446744073709551616 (tfS xs ys xs.length).1 = val 18446744073709551616 xs - val 18446744073709551616 ys := by
  obtain ⟨h1, h2, h3, h4, h5⟩ := tf_fine hx hy xs.length (Nat.le_refl _)
  have hlt := val_lt h3 (by decide)
  rw [part_ge _ ys _ hl, part_all, part_ge _ (tfS xs ys xs.length).1 _ (Nat.le_of_eq h1)] at h5
  rw [h1] at hlt
  generalize (tfS xs ys xs.length).2 = c at *
  have : c = 0 ∨ c = 1 := by omega
  rcases this with rfl | rfl
  · omega
  · rw [Nat.mul_one] at h5
    have := val_lt hx (by decide)
    omega
def tfI (xs ys : List Nat) (S off cap : Nat) (aY : Option Addr) (capY : Nat) (w : World) (k : Nat) (W : World) : Prop :=
  (Boxed W w.heap.size 22 (.slice (some ⟨S, off, none⟩) xs.length cap) ∧ Boxed W (w.heap.size + 1) 22 (.slice aY ys.length capY) ∧ Boxed W (w.heap.size + 1 + 1) 47 (.int .u64 ((tfS xs ys k).2 : Int)) ∧ Boxed W (w.heap.size + 1 + 1 + 1) 22 (.slice (some ⟨S, off, none⟩) xs.length cap) ∧ Seg W S off (tfS xs ys k).1) ∧ Off S w W
theorem tfI_steady (xs ys : List Nat) (S off cap : Nat) (aY : Option Addr) (capY : Nat) (w : World) (k : Nat) {B₀ : Nat} (h : w.heap.size ≤ B₀) : Steady B₀ (tfI xs ys S off cap aY capY w k) :=
  (steady_boxed.and (steady_boxed.and (steady_boxed.and (steady_boxed.and steady_seg)))).and (steady_off h)
set_option maxRecDepth 100000 in
set_option maxHeartbeats 4000000 in
theorem takeOff_in (n : Nat) (hn : 6 ≤ n) (S off cap bY : Nat) (vb : Value) (xs ys : List Nat) (hreach : xs.length ≤ 17592186044416) (hyl : ys.length ≤ 17592186044416) (hcap : xs.length ≤ cap) (hlow : Low 18446744073709551616 xs) (hylow : Low 18446744073709551616 ys) (w : World) (hI : Seg w S off xs) (hbY : bY < w.heap.size) (hne : bY ≠ S) (hY : RdAt bY w vb ys) :
    CallsIn Fence.wide n Tryd.prog 71 #[.slice (some ⟨S, off, none⟩) xs.length cap, vb] w fun e W' => (∃ v, e = .returned v) ∧ Seg W' S off (tfS xs ys xs.length).1 ∧ Off S w W' := by
  have h1 : 1 ≤ n := by omega
  have hmx := follows
  have hS := hI.lt
  obtain ⟨aY, capY, rfl, hcapY, hsomeY⟩ := hY.slice
  have HSY := Lib.hid hsomeY
  clear hsomeY
  refine callsIn_of_wp_marks Tryd.func71 rfl trivial ?_ rfl
  simp only [Tryd.ntmps71, List.size_toArray, List.length_cons, List.length_nil, Nat.reduceAdd, Nat.reduceSub, Array.replicate_succ, Array.replicate_zero, List.push_toArray, List.append_toArray, List.nil_append, List.cons_append]
  gi_wp2_with (refine ⟨trivial, ?_⟩; gi_at_call 69; refine (nup_in Fence.wide (n - 1) trivial rfl _ _ _ _).mono ?_; rintro e w' ⟨rfl, rfl⟩)
  have b1 := (((Boxed.new w 22 (.slice (some ⟨S, off, none⟩) xs.length cap)).alloc (.cells #[.slice aY ys.length capY] 22)).alloc (.cells #[.int .u64 0] 47)).alloc (.cells #[.slice (some ⟨S, off, none⟩) xs.length cap] 22)
  have b2 := ((Boxed.new (w.alloc (.cells #[.slice (some ⟨S, off, none⟩) xs.length cap] 22)) 22 (.slice aY ys.length capY)).alloc (.cells #[.int .u64 0] 47)).alloc (.cells #[.slice (some ⟨S, off, none⟩) xs.length cap] 22)
  have b3 := (Boxed.new ((w.alloc (.cells #[.slice (some ⟨S, off, none⟩) xs.length cap] 22)).alloc (.cells #[.slice aY ys.length capY] 22)) 47 (.int .u64 0)).alloc (.cells #[.slice (some ⟨S, off, none⟩) xs.length cap] 22)
  have b4 := Boxed.new (((w.alloc (.cells #[.slice (some ⟨S, off, none⟩) xs.length cap] 22)).alloc (.cells #[.slice aY ys.length capY] 22)).alloc (.cells #[.int .u64 0] 47)) 22 (.slice (some ⟨S, off, none⟩) xs.length cap)
  have hB0 : Below w.heap.size w ((((w.alloc (.cells #[.slice (some ⟨S, off, none⟩) xs.length cap] 22)).alloc (.cells #[.slice aY ys.length capY] 22)).alloc (.cells #[.int .u64 0] 47)).alloc (.cells #[.slice (some ⟨S, off, none⟩) xs.length cap] 22)) := ((((Below.refl _ w).alloc (Nat.le_refl _) _).alloc (by simp) _).alloc (by simp; omega) _).alloc (by simp; omega) _
  have hO0 := (Off.refl S w).below hB0
  have hS0 := hI.behind hB0
  simp only [World.size_alloc] at b1 b2 b3 b4
  have hW0 : ((((w.alloc (.cells #[.slice (some ⟨S, off, none⟩) xs.length cap] 22)).alloc (.cells #[.slice aY ys.length capY] 22)).alloc (.cells #[.int .u64 0] 47)).alloc (.cells #[.slice (some ⟨S, off, none⟩) xs.length cap] 22)).heap.size = w.heap.size + 1 + 1 + 1 + 1 := by simp
  generalize ((((w.alloc (.cells #[.slice (some ⟨S, off, none⟩) xs.length cap] 22)).alloc (.cells #[.slice aY ys.length capY] 22)).alloc (.cells #[.int .u64 0] 47)).alloc (.cells #[.slice (some ⟨S, off, none⟩) xs.length cap] 22)) = W0 at *
  refine wpIn_range (σ := Pl xs.length) rfl h1 (gf := 75) (lb := #[.pointer (some ⟨w.heap.size + 1 + 1 + 1, 0, none⟩)]) rfl trivial (enters_of Tryd.func75 (by kernel_rfl) rfl)
    (encs := encU xs) (fun _ => rfl) (tfI xs ys S off cap aY capY w 0) (fun s => tfI xs ys S off cap aY capY w (s.1 + 1)) (fun s => tfI xs ys S off cap aY capY w s.1) (tfI xs ys S off cap aY capY w xs.length) (fun _ _ => False)
    (tfI_steady _ _ _ _ _ _ _ _ _ (by omega)) (fun _ => tfI_steady _ _ _ _ _ _ _ _ _ (by omega)) (fun _ => tfI_steady _ _ _ _ _ _ _ _ _ (by omega)) (tfI_steady _ _ _ _ _ _ _ _ _ (by omega)) (fun _ => steady_pure)
    ⟨⟨b1, b2, b3, b4, hS0⟩, hO0⟩ ?seq ?a1 ?assign ?body ?done ?stop
  case seq =>
    intro l X Xz W hl hXs hI0 hX hY'
    exact nup_st Fence.wide (n - 1) trivial rfl (by omega) l (w.heap.size + 1 + 1 + 1) S off cap xs.length _ (fun _ => rfl) (by omega) (fun k => (lim xs k : Int)) (tfI xs ys S off cap aY capY w) X _ Xz
      (fun k W _ h => h.1.2.2.2.1.cell)
      (fun k W hk h => by
        obtain ⟨f1, f2, f3, f4, f5⟩ := tf_fine hlow hylow k (by omega)
        have := h.1.2.2.2.2.cell (j := k) (by omega)
        rw [f4 k (Nat.le_refl _)] at this
        exact this)
      (fun k U hk h hx => hY' ⟨k, hk⟩ U h hx) W hI0 hX
  case assign =>
    intro l x W K hK
    gi_wp2
    exact hK
  case body =>
    rintro l ⟨k, hk⟩ W hl ⟨⟨c1, c2, c3, c4, c5⟩, hO⟩
    dsimp only at *
    have hd0 : 1 ≤ n - 1 - 1 := by omega
    obtain ⟨f1, f2, f3, f4, f5⟩ := tf_fine hlow hylow k (by omega)
    have hx := lim_lt hlow (by decide) k
    have hyy := lim_lt hylow (by decide) k
    have hst1 : Hid ((tfS xs ys (k + 1)).1 = (tfS xs ys k).1.set k (sub64 (lim xs k) (lim ys k) (tfS xs ys k).2)) := Lib.hid rfl
    have hst2 : Hid ((tfS xs ys (k + 1)).2 = borrow64 (lim xs k) (lim ys k) (tfS xs ys k).2) := Lib.hid rfl
    generalize tfS xs ys k = st at *
    have kr := c5.cell (j := k) (by omega)
    have gr := c5.frozen (off + k)
    have F1 := Lib.hid f1
    clear f1 f3 f4 f5
    have h64 : ∀ u : World, (callFunc 62 #[.int .u64 (lim xs k : Int), .int .u64 (lim ys k : Int), .int .u64 (st.2 : Int)]).run Tryd.prog u = .ok (.value (.tuple #[.int .u64 (sub64 (lim xs k) (lim ys k) st.2 : Int), .int .u64 (borrow64 (lim xs k) (lim ys k) st.2 : Int)])) u := sub64_run _ _ _ f2
    generalize hde : sub64 (lim xs k) (lim ys k) st.2 = d at *
    generalize hbe : borrow64 (lim xs k) (lim ys k) st.2 = bo at *
    have HDE := Lib.hid hde
    have HBE := Lib.hid hbe
    clear hde hbe
    have hfn1 : Fence.wide.fn 62 := trivial
    have k1 := c1.cell
    have k2 := c2.cell
    have k3 := c3.cell
    have g3 := c3.frozen
    have hsl : k < st.1.length := by rw [F1.out]; exact hk
    have nr := c5.set k d hsl
    have n1 := c1.far (p := ⟨S, off + k, none⟩) (by (try dsimp only); omega) (.int .u64 (d : Int))
    have n2 := c2.far (p := ⟨S, off + k, none⟩) (by (try dsimp only); omega) (.int .u64 (d : Int))
    have n3 := c3.far (p := ⟨S, off + k, none⟩) (by (try dsimp only); omega) (.int .u64 (d : Int))
    have n4 := c4.far (p := ⟨S, off + k, none⟩) (by (try dsimp only); omega) (.int .u64 (d : Int))
    have nO := hO.set (p := ⟨S, off + k, none⟩) (.inl rfl) (.int .u64 (d : Int))
    have kn := n3.cell
    have gn := n3.frozen
    have m1 := n1.far (p := ⟨w.heap.size + 1 + 1, 0, none⟩) (by (try dsimp only); omega) (.int .u64 (bo : Int))
    have m2 := n2.far (p := ⟨w.heap.size + 1 + 1, 0, none⟩) (by (try dsimp only); omega) (.int .u64 (bo : Int))
    have m4 := n4.far (p := ⟨w.heap.size + 1 + 1, 0, none⟩) (by (try dsimp only); omega) (.int .u64 (bo : Int))
    have mr := nr.far (p := ⟨w.heap.size + 1 + 1, 0, none⟩) (by (try dsimp only); omega) (.int .u64 (bo : Int))
    have m3 := n3.set (.int .u64 (bo : Int))
    have mO := nO.set (p := ⟨w.heap.size + 1 + 1, 0, none⟩) (.inr (by (try dsimp only); omega)) (.int .u64 (bo : Int))
    have hki : (k : Int) < (xs.length : Int) := by omega
    clear F1 hsl
    by_cases hky : k < ys.length
    · have hdec : decide (k < ys.length) = true := decide_eq_true hky
      have hkyI : (k : Int) < (ys.length : Int) := by omega
      obtain ⟨oY, rfl⟩ := HSY.out (by omega)
      have hyc : W.cell? ⟨bY, oY + k, none⟩ = some (.int .u64 (lim ys k : Int)) := (World.cell?_of_block (w := w) (a := ⟨bY, oY + k, none⟩) (hO.block bY hbY hne)).trans (hY.cell hky)
      gi_wp2
      refine region_round hmx (by kernel_rfl) (by rintro ⟨_, _, h⟩; exact h) (fun u => u.cell? ⟨w.heap.size, 0, none⟩ = some (.slice (some ⟨S, off, none⟩) xs.length cap)) k1 (fun hHeld => ?_)
      refine wpAnyH_take (i := 0) (v := ?_) rfl (by kernel_rfl) (by kernel_rfl) (by kernel_rfl) (fun _ _ _ h => h) (Or.inl ⟨by rfl, ?_⟩) (by assumption) ?_
      rotate_left
      · (intro _ hSw; (try dsimp only at hSw); (first | (go_simp; done) | (go_simp; with_reducible rfl)))
      try simp only [Act.put, List.getElem_toArray, List.getElem_cons_zero, List.setIfInBounds_toArray, List.set_cons_zero, List.set_cons_succ]
      refine wpAnyH_take (i := 1) (v := ?_) rfl (by kernel_rfl) (by kernel_rfl) (by kernel_rfl) (fun _ _ _ h => h) (Or.inl ⟨by rfl, ?_⟩) (by assumption) ?_
      rotate_left
      · (intro _ hSw; (try dsimp only at hSw); (first | (go_simp; done) | (go_simp; with_reducible rfl)))
      try simp only [Act.put, List.getElem_toArray, List.getElem_cons_zero, List.getElem_cons_succ, List.setIfInBounds_toArray, List.set_cons_zero, List.set_cons_succ]
      refine wpAnyH_take (i := 2) (v := ?_) rfl (by kernel_rfl) (by kernel_rfl) (by kernel_rfl) (fun _ _ _ h => h) (Or.inl ⟨by rfl, ?_⟩) (by assumption) ?_
      rotate_left
      · (intro _ hSw; (try dsimp only at hSw); (first | (go_simp; done) | (go_simp; with_reducible rfl)))
      try simp only [Act.put, List.getElem_toArray, List.getElem_cons_zero, List.getElem_cons_succ, List.setIfInBounds_toArray, List.set_cons_zero, List.set_cons_succ]
      refine wpAnyH_take (i := 3) (v := ?_) rfl (by kernel_rfl) (by kernel_rfl) (by kernel_rfl) (fun _ _ _ h => h) (Or.inl ⟨by rfl, ?_⟩) (by assumption) ?_
      rotate_left
      · (intro _ hSw; (try dsimp only at hSw); (first | (go_simp; done) | (go_simp; with_reducible rfl)))
      try simp only [Act.put, List.getElem_toArray, List.getElem_cons_zero, List.getElem_cons_succ, List.setIfInBounds_toArray, List.set_cons_zero, List.set_cons_succ]
      refine wpAnyH_ready (rs := [4]) (by kernel_rfl) (by simp) ?_
      refine AllReadyH.cons rfl (fun K hK => ?_) AllReadyH.nil
      go_simp
      refine hK.out _ _ hHeld (fun hHeld => ?_)
      clear hK K
      try simp only [Act.put, List.getElem_toArray, List.getElem_cons_zero, List.getElem_cons_succ, List.setIfInBounds_toArray, List.set_cons_zero, List.set_cons_succ]
      refine wpAnyH_ready (rs := [5]) (by kernel_rfl) (by simp) ?_
      refine AllReadyH.cons rfl (fun K hK => ?_) AllReadyH.nil
      go_simp
      refine hK.out _ _ hHeld (fun hHeld => ?_)
      clear hK K
      try simp only [Act.put, List.getElem_toArray, List.getElem_cons_zero, List.getElem_cons_succ, List.setIfInBounds_toArray, List.set_cons_zero, List.set_cons_succ]
      refine wpAnyH_ready (rs := [6]) (by kernel_rfl) (by simp) ?_
      refine AllReadyH.cons rfl (fun K hK => ?_) AllReadyH.nil
      go_simp
      refine hK.out _ _ hHeld (fun hHeld => ?_)
      clear hK K
      try simp only [Act.put, List.getElem_toArray, List.getElem_cons_zero, List.getElem_cons_succ, List.setIfInBounds_toArray, List.set_cons_zero, List.set_cons_succ]
      refine wpAnyH_take (i := 7) (v := ?_) rfl (by kernel_rfl) (by kernel_rfl) (by kernel_rfl) (fun _ _ _ h => h) (Or.inl ⟨by rfl, ?_⟩) (by assumption) ?_
      rotate_left
      · (intro _ hSw; (try dsimp only at hSw); (first | (go_simp; done) | (go_simp; with_reducible rfl)))
      try simp only [Act.put, List.getElem_toArray, List.getElem_cons_zero, List.getElem_cons_succ, List.setIfInBounds_toArray, List.set_cons_zero, List.set_cons_succ]
      refine wpAnyH_take (i := 8) (v := ?_) rfl (by kernel_rfl) (by kernel_rfl) (by kernel_rfl) (fun _ _ _ h => h) (Or.inl ⟨by rfl, ?_⟩) (by assumption) ?_
      rotate_left
      · (intro _ hSw; (try dsimp only at hSw); (first | (go_simp; done) | (go_simp; with_reducible rfl)))
      try simp only [Act.put, List.getElem_toArray, List.getElem_cons_zero, List.getElem_cons_succ, List.setIfInBounds_toArray, List.set_cons_zero, List.set_cons_succ]
      refine wpAnyH_take (i := 9) (v := ?_) rfl (by kernel_rfl) (by kernel_rfl) (by kernel_rfl) (fun _ _ _ h => h) (Or.inl ⟨by rfl, ?_⟩) (by assumption) ?_
      rotate_left
      · (intro _ hSw; (try dsimp only at hSw); (first | (go_simp; done) | (go_simp; with_reducible rfl)))
      try simp only [Act.put, List.getElem_toArray, List.getElem_cons_zero, List.getElem_cons_succ, List.setIfInBounds_toArray, List.set_cons_zero, List.set_cons_succ]
      refine wpAnyH_ready (rs := [10]) (by kernel_rfl) (by simp) ?_
      refine AllReadyH.cons rfl (fun K hK => ?_) AllReadyH.nil
      go_simp
      refine hK.out _ _ n1.cell (fun hHeld => ?_)
      clear hK K
      try simp only [Act.put, List.getElem_toArray, List.getElem_cons_zero, List.getElem_cons_succ, List.setIfInBounds_toArray, List.set_cons_zero, List.set_cons_succ]
      refine wpAnyH_ready (rs := [11]) (by kernel_rfl) (by simp) ?_
      refine AllReadyH.cons rfl (fun K hK => ?_) AllReadyH.nil
      go_simp
      refine hK.out _ _ m1.cell (fun hHeld => ?_)
      clear hK K
      try simp only [Act.put, List.getElem_toArray, List.getElem_cons_zero, List.getElem_cons_succ, List.setIfInBounds_toArray, List.set_cons_zero, List.set_cons_succ]
      refine wpAnyH_done (by kernel_rfl) ?_ _
      gi_wp2
      exact ⟨(((KeepsOthers.setCell _ _ _).trans (KeepsOthers.setCell _ _ _)).trans (KeepsOthers.drew _)).from _, ⟨m1, m2, by rw [hst2.out]; exact m3, m4, by rw [hst1.out]; exact mr⟩, mO.drew⟩
    · have hdec : decide (k < ys.length) = false := decide_eq_false hky
      have hkyI : ¬ (k : Int) < (ys.length : Int) := by omega
      have hy0 : lim ys k = 0 := lim_ge (by omega)
      have h65 : ∀ u : World, (callFunc 62 #[.int .u64 (lim xs k : Int), .int .u64 0, .int .u64 (st.2 : Int)]).run Tryd.prog u = .ok (.value (.tuple #[.int .u64 (d : Int), .int .u64 (bo : Int)])) u := by
        intro u
        have := h64 u
        rw [hy0] at this
        exact this
      clear h64 hy0
      gi_wp2
      refine region_round hmx (by kernel_rfl) (by rintro ⟨_, _, h⟩; exact h) (fun u => u.cell? ⟨w.heap.size, 0, none⟩ = some (.slice (some ⟨S, off, none⟩) xs.length cap)) k1 (fun hHeld => ?_)
      refine wpAnyH_take (i := 0) (v := ?_) rfl (by kernel_rfl) (by kernel_rfl) (by kernel_rfl) (fun _ _ _ h => h) (Or.inl ⟨by rfl, ?_⟩) (by assumption) ?_
      rotate_left
      · (intro _ hSw; (try dsimp only at hSw); (first | (go_simp; done) | (go_simp; with_reducible rfl)))
      try simp only [Act.put, List.getElem_toArray, List.getElem_cons_zero, List.setIfInBounds_toArray, List.set_cons_zero, List.set_cons_succ]
      refine wpAnyH_take (i := 1) (v := ?_) rfl (by kernel_rfl) (by kernel_rfl) (by kernel_rfl) (fun _ _ _ h => h) (Or.inl ⟨by rfl, ?_⟩) (by assumption) ?_
      rotate_left
      · (intro _ hSw; (try dsimp only at hSw); (first | (go_simp; done) | (go_simp; with_reducible rfl)))
      try simp only [Act.put, List.getElem_toArray, List.getElem_cons_zero, List.getElem_cons_succ, List.setIfInBounds_toArray, List.set_cons_zero, List.set_cons_succ]
      refine wpAnyH_take (i := 2) (v := ?_) rfl (by kernel_rfl) (by kernel_rfl) (by kernel_rfl) (fun _ _ _ h => h) (Or.inl ⟨by rfl, ?_⟩) (by assumption) ?_
      rotate_left
      · (intro _ hSw; (try dsimp only at hSw); (first | (go_simp; done) | (go_simp; with_reducible rfl)))
      try simp only [Act.put, List.getElem_toArray, List.getElem_cons_zero, List.getElem_cons_succ, List.setIfInBounds_toArray, List.set_cons_zero, List.set_cons_succ]
      refine wpAnyH_take (i := 3) (v := ?_) rfl (by kernel_rfl) (by kernel_rfl) (by kernel_rfl) (fun _ _ _ h => h) (Or.inl ⟨by rfl, ?_⟩) (by assumption) ?_
      rotate_left
      · (intro _ hSw; (try dsimp only at hSw); (first | (go_simp; done) | (go_simp; with_reducible rfl)))
      try simp only [Act.put, List.getElem_toArray, List.getElem_cons_zero, List.getElem_cons_succ, List.setIfInBounds_toArray, List.set_cons_zero, List.set_cons_succ]
      refine wpAnyH_ready (rs := [4]) (by kernel_rfl) (by simp) ?_
      refine AllReadyH.cons rfl (fun K hK => ?_) AllReadyH.nil
      go_simp
      refine hK.out _ _ hHeld (fun hHeld => ?_)
      clear hK K
      try simp only [Act.put, List.getElem_toArray, List.getElem_cons_zero, List.getElem_cons_succ, List.setIfInBounds_toArray, List.set_cons_zero, List.set_cons_succ]
      refine wpAnyH_ready (rs := [5]) (by kernel_rfl) (by simp) ?_
      refine AllReadyH.cons rfl (fun K hK => ?_) AllReadyH.nil
      go_simp
      refine hK.out _ _ hHeld (fun hHeld => ?_)
      clear hK K
      try simp only [Act.put, List.getElem_toArray, List.getElem_cons_zero, List.getElem_cons_succ, List.setIfInBounds_toArray, List.set_cons_zero, List.set_cons_succ]
      refine wpAnyH_ready (rs := [6]) (by kernel_rfl) (by simp) ?_
      refine AllReadyH.cons rfl (fun K hK => ?_) AllReadyH.nil
      go_simp
      refine hK.out _ _ hHeld (fun hHeld => ?_)
      clear hK K
      try simp only [Act.put, List.getElem_toArray, List.getElem_cons_zero, List.getElem_cons_succ, List.setIfInBounds_toArray, List.set_cons_zero, List.set_cons_succ]
      refine wpAnyH_take (i := 7) (v := ?_) rfl (by kernel_rfl) (by kernel_rfl) (by kernel_rfl) (fun _ _ _ h => h) (Or.inl ⟨by rfl, ?_⟩) (by assumption) ?_
      rotate_left
      · (intro _ hSw; (try dsimp only at hSw); (first | (go_simp; done) | (go_simp; with_reducible rfl)))
      try simp only [Act.put, List.getElem_toArray, List.getElem_cons_zero, List.getElem_cons_succ, List.setIfInBounds_toArray, List.set_cons_zero, List.set_cons_succ]
      refine wpAnyH_take (i := 8) (v := ?_) rfl (by kernel_rfl) (by kernel_rfl) (by kernel_rfl) (fun _ _ _ h => h) (Or.inl ⟨by rfl, ?_⟩) (by assumption) ?_
      rotate_left
      · (intro _ hSw; (try dsimp only at hSw); (first | (go_simp; done) | (go_simp; with_reducible rfl)))
      try simp only [Act.put, List.getElem_toArray, List.getElem_cons_zero, List.getElem_cons_succ, List.setIfInBounds_toArray, List.set_cons_zero, List.set_cons_succ]
      refine wpAnyH_take (i := 9) (v := ?_) rfl (by kernel_rfl) (by kernel_rfl) (by kernel_rfl) (fun _ _ _ h => h) (Or.inl ⟨by rfl, ?_⟩) (by assumption) ?_
      rotate_left
      · (intro _ hSw; (try dsimp only at hSw); (first | (go_simp; done) | (go_simp; with_reducible rfl)))
      try simp only [Act.put, List.getElem_toArray, List.getElem_cons_zero, List.getElem_cons_succ, List.setIfInBounds_toArray, List.set_cons_zero, List.set_cons_succ]
      refine wpAnyH_ready (rs := [10]) (by kernel_rfl) (by simp) ?_
      refine AllReadyH.cons rfl (fun K hK => ?_) AllReadyH.nil
      go_simp
      refine hK.out _ _ n1.cell (fun hHeld => ?_)
      clear hK K
      try simp only [Act.put, List.getElem_toArray, List.getElem_cons_zero, List.getElem_cons_succ, List.setIfInBounds_toArray, List.set_cons_zero, List.set_cons_succ]
      refine wpAnyH_ready (rs := [11]) (by kernel_rfl) (by simp) ?_
      refine AllReadyH.cons rfl (fun K hK => ?_) AllReadyH.nil
      go_simp
      refine hK.out _ _ m1.cell (fun hHeld => ?_)
      clear hK K
      try simp only [Act.put, List.getElem_toArray, List.getElem_cons_zero, List.getElem_cons_succ, List.setIfInBounds_toArray, List.set_cons_zero, List.set_cons_succ]
      refine wpAnyH_done (by kernel_rfl) ?_ _
      gi_wp2
      exact ⟨(((KeepsOthers.setCell _ _ _).trans (KeepsOthers.setCell _ _ _)).trans (KeepsOthers.drew _)).from _, ⟨m1, m2, by rw [hst2.out]; exact m3, m4, by rw [hst1.out]; exact mr⟩, mO.drew⟩
  case done =>
    rintro D W hD ⟨⟨c1, c2, c3, c4, c5⟩, hO⟩ hK
    gi_wp2
    have hBf := belowK_b (w := w) (Nat.le_refl _) W D _ (.deferred none) (by omega) hK rfl rfl
    refine ⟨by simp, .inl ⟨_, _, rfl, run_takeDeferred hK, ?_⟩⟩
    exact ⟨_, results_none rfl _ _ _, ⟨_, rfl⟩, c5.kept (World.putObj_heap_other (by omega)), hO.below hBf⟩
  case stop =>
    rintro D c W _ h _
    exact h.elim
end Go.Proofs.YtfbnpdlkbabmfaaDoor
