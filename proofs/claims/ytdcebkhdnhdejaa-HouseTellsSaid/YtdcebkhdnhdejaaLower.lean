/- natdiv.trim: the part of a list of words without zeros at the end, in the list's own memory. -/
import Derived.Test.YtdcebkhdnhdejaaBitNum
import Derived.Test.YtdcebkhdnhdejaaState
import Derived.IntWalk
namespace Go.Proofs.Ytdcebkhdnhdejaa
open Go.RowKit Go.Shelf

theorem nbits_words {xs : List Nat} (hlow : Low 18446744073709551616 xs) : (nbits (val 18446744073709551616 xs) + 63) / 64 = (cutz xs).length ∧ (cutz xs = [] ↔ nbits (val 18446744073709551616 xs) = 0) := by
  rw [← val_cutz]
  have hl := cutz_low hlow
  have hc := cutz_cutz xs
  generalize cutz xs = ys at *
  by_cases hne : ys = []
  · subst hne; simp [val, nbits]
  · have hpos : 0 < ys.length := List.length_pos_iff.2 hne
    have ht := cutz_top hc hne
    have h1 : nbits (val 18446744073709551616 ys) = 64 * (ys.length - 1) + nbits (lim ys (ys.length - 1)) := nbits_top (p := 64) rfl hl ht (fun j hj => lim_ge (by omega))
    have h2 := nbits_le (n := lim ys (ys.length - 1)) (k := 64) (by simpa using lim_lt hl (by decide) (ys.length - 1))
    have h3 := (nbits_bounds ht).1
    refine ⟨by omega, fun h => absurd h hne, fun h => by omega⟩
theorem cutz_take_len (xs : List Nat) : cutz xs = xs.take (cutz xs).length := by
  induction xs with
  | nil => rfl
  | cons x r ih =>
    rw [cutz]
    split
    · rfl
    · rw [List.length_cons, List.take_succ_cons, ← ih]

set_option maxHeartbeats 1000000 in
theorem ntrim_calls (b : Nat) (v : Value) (xs : List Nat) (hreach : xs.length ≤ 17592186044416) (hlow : Low 18446744073709551616 xs) (w : World) (hb : b < w.heap.size) (hI : RdAt b w v xs) :
    Calls Try.prog 162 #[v] w fun e W' => ∃ v', e = .returned v' ∧ RdAt b W' v' (cutz xs) ∧ Below w.heap.size w W' := by
  obtain ⟨a, cap, rfl, hcap, hsome⟩ := hI.slice
  have hbc := bits_calls b _ xs hreach hlow w hb hI
  obtain ⟨hn1, hn2⟩ := nbits_words hlow
  have hlen := cutz_length xs
  have hnl : nbits (val 18446744073709551616 xs) ≤ 64 * xs.length := by
    refine nbits_le ?_
    have := val_lt hlow (by decide)
    rwa [show 18446744073709551616 = 2 ^ 64 from rfl, ← Nat.pow_mul] at this
  have ht : Hid (cutz xs = xs.take (cutz xs).length) := Lib.hid (cutz_take_len xs)
  by_cases h0 : nbits (val 18446744073709551616 xs) = 0
  · have hz : Hid (cutz xs = []) := Lib.hid (hn2.2 h0)
    rw [h0] at hbc
    clear hn1 hn2 hnl hlen h0 hsome
    go_enter Try.func162, Try.ntmps162
    go_wp2_with fail
    refine hbc.mono ?_
    rintro e w1 ⟨rfl, hb1⟩
    go_wp2
    go_ret
    exact ⟨_, rfl, .inl ⟨⟨_, _, rfl⟩, hz.out⟩, hb1⟩
  · have hx0 : 0 < xs.length := by omega
    obtain ⟨off, rfl⟩ := hsome hx0
    have HI := Lib.hid hI
    generalize hN : nbits (val 18446744073709551616 xs) = N at *
    generalize hL : (cutz xs).length = L at *
    have HN := Lib.hid hn1
    have hd0 : ((N : Int) == 0) = false := beq_eq_false_iff_ne.2 (by omega)
    have hk1 : ((N : Int) + 63) / 64 = (L : Int) := by omega
    have hLc : L ≤ cap := by omega
    have HL := Lib.hid hL
    clear hn1 hn2 hsome hI hN hL h0
    go_enter Try.func162, Try.ntmps162
    go_wp2_with fail
    refine hbc.mono ?_
    rintro e w1 ⟨rfl, hb1⟩
    clear hbc
    go_wp2
    go_ret
    refine ⟨_, rfl, ?_, hb1⟩
    rw [ht.out]
    exact RdAt.take (HI.out.kept (hb1.block b hb)) hlen
end Go.Proofs.Ytdcebkhdnhdejaa

/- natdiv.lower: a number by a power of two below 2^64, in its own memory. -/
namespace Go.Proofs.Ytdcebkhdnhdejaa
open Go.RowKit Go.Shelf

attribute [local go_sem] Oper.semAt_some

set_option maxRecDepth 100000 in
set_option maxHeartbeats 4000000 in
theorem lower_in (n : Nat) (hn : 6 ≤ n) (S off cap : Nat) (xs : List Nat) (p : Nat) (hreach : xs.length ≤ 17592186044416) (hcap : xs.length ≤ cap) (hp : p < 64) (hlow : Low 18446744073709551616 xs) (w : World) (hI : Seg w S off xs) :
    CallsIn Fence.wide n Try.prog 155 #[.slice (some ⟨S, off, none⟩) xs.length cap, .int .i64 (p : Int)] w fun e W' => ∃ v', e = .returned v' ∧ RdAt S W' v' (digs 18446744073709551616 (val 18446744073709551616 xs / 2 ^ p)) ∧ Wb W' S ∧ Off S w W' := by
  have h1 : 1 ≤ n := by omega
  have hmx := follows
  have hS := hI.lt
  have hfin : Hid (cutz (lowL xs p) = digs 18446744073709551616 (val 18446744073709551616 xs / 2 ^ p)) := Lib.hid (by rw [cutz_eq_digs (by decide) (lowL_low hlow p), lowL_val hlow (by omega)])
  refine callsIn_of_wp_marks Try.func155 rfl trivial ?_ rfl
  simp only [Try.ntmps155, List.size_toArray, List.length_cons, List.length_nil, Nat.reduceAdd, Nat.reduceSub, Array.replicate_succ, Array.replicate_zero, List.push_toArray, List.append_toArray, List.nil_append, List.cons_append]
  gi_wp2_with (refine ⟨trivial, ?_⟩; gi_at_call 167; refine (ndown_in Fence.wide (n - 1) trivial rfl _ _ _ _).mono ?_; rintro e w' ⟨rfl, rfl⟩)
  have b1 := ((Boxed.new w 22 (.slice (some ⟨S, off, none⟩) xs.length cap)).alloc (.cells #[.int .i64 (p : Int)] 3)).alloc (.cells #[.int .u64 0] 32) |>.alloc (.cells #[.slice (some ⟨S, off, none⟩) xs.length cap] 22)
  have b2 := ((Boxed.new (w.alloc (.cells #[.slice (some ⟨S, off, none⟩) xs.length cap] 22)) 3 (.int .i64 (p : Int))).alloc (.cells #[.int .u64 0] 32)).alloc (.cells #[.slice (some ⟨S, off, none⟩) xs.length cap] 22)
  have b3 := (Boxed.new ((w.alloc (.cells #[.slice (some ⟨S, off, none⟩) xs.length cap] 22)).alloc (.cells #[.int .i64 (p : Int)] 3)) 32 (.int .u64 0)).alloc (.cells #[.slice (some ⟨S, off, none⟩) xs.length cap] 22)
  have b4 := Boxed.new (((w.alloc (.cells #[.slice (some ⟨S, off, none⟩) xs.length cap] 22)).alloc (.cells #[.int .i64 (p : Int)] 3)).alloc (.cells #[.int .u64 0] 32)) 22 (.slice (some ⟨S, off, none⟩) xs.length cap)
  have hB0 : Below w.heap.size w ((((w.alloc (.cells #[.slice (some ⟨S, off, none⟩) xs.length cap] 22)).alloc (.cells #[.int .i64 (p : Int)] 3)).alloc (.cells #[.int .u64 0] 32)).alloc (.cells #[.slice (some ⟨S, off, none⟩) xs.length cap] 22)) := ((((Below.refl _ w).alloc (Nat.le_refl _) _).alloc (by simp) _).alloc (by simp; omega) _).alloc (by simp; omega) _
  have hO0 := (Off.refl S w).below hB0
  have hS0 := hI.behind hB0
  simp only [World.size_alloc] at b1 b2 b3 b4
  have hW0 : ((((w.alloc (.cells #[.slice (some ⟨S, off, none⟩) xs.length cap] 22)).alloc (.cells #[.int .i64 (p : Int)] 3)).alloc (.cells #[.int .u64 0] 32)).alloc (.cells #[.slice (some ⟨S, off, none⟩) xs.length cap] 22)).heap.size = w.heap.size + 1 + 1 + 1 + 1 := by simp
  generalize ((((w.alloc (.cells #[.slice (some ⟨S, off, none⟩) xs.length cap] 22)).alloc (.cells #[.int .i64 (p : Int)] 3)).alloc (.cells #[.int .u64 0] 32)).alloc (.cells #[.slice (some ⟨S, off, none⟩) xs.length cap] 22)) = W0 at *
  have hz : shlw (lim xs (xs.length - 0)) (64 - p) = 0 := by rw [lim_ge (by omega)]; simp [shlw]
  have b3' : Boxed W0 (w.heap.size + 1 + 1) 32 (.int .u64 (shlw (lim xs (xs.length - 0)) (64 - p) : Int)) := by rw [hz]; exact b3
  clear hz
  refine wpIn_range (σ := Pl xs.length) rfl h1 (gf := 175) (lb := #[.pointer (some ⟨w.heap.size + 1 + 1 + 1, 0, none⟩)]) rfl trivial (enters_of Try.func175 (by kernel_rfl) rfl)
    (encs := fun k => #[.int .i64 ((xs.length - 1 - k.1 : Nat) : Int), .int .u64 (lim xs (xs.length - 1 - k.1) : Int)]) (fun _ => rfl) (lwI xs p S off cap w 0) (fun s => lwI xs p S off cap w (s.1 + 1)) (fun s => lwI xs p S off cap w s.1) (lwI xs p S off cap w xs.length) (fun _ _ => False)
    (lwI_steady _ _ _ _ _ _ _ (by omega)) (fun _ => lwI_steady _ _ _ _ _ _ _ (by omega)) (fun _ => lwI_steady _ _ _ _ _ _ _ (by omega)) (lwI_steady _ _ _ _ _ _ _ (by omega)) (fun _ => steady_pure)
    ⟨⟨b1, b2, b3', b4, hS0⟩, hO0⟩ ?seq ?a1 ?assign ?body ?done ?stop
  case seq =>
    intro l X Xz W hl hXs hI0 hX hY
    exact ndown_st Fence.wide (n - 1) trivial rfl (by omega) l (w.heap.size + 1 + 1 + 1) S off cap xs.length _ (fun _ => rfl) (by omega) (fun k => (lim xs (xs.length - 1 - k) : Int)) (lwI xs p S off cap w) X _ Xz
      (fun k W _ h => h.1.2.2.2.1.cell)
      (fun k W hk h => by
        obtain ⟨f1, f2⟩ := lwS_fine xs p k (by omega)
        have := h.1.2.2.2.2.cell (j := xs.length - 1 - k) (by omega)
        rw [f2, if_neg (by omega)] at this
        exact this)
      (fun k U hk h hx => hY ⟨k, hk⟩ U h hx) W hI0 hX
  case assign =>
    intro l x W K hK
    gi_wp2
    exact hK
  case body =>
    rintro l j W hl ⟨⟨c1, c2, c3, c4, c5⟩, hO⟩
    obtain ⟨k, hk⟩ := j
    dsimp only at *
    obtain ⟨f1, f2⟩ := lwS_fine xs p k (by omega)
    have hst : Hid (lwS xs p (k + 1) = (lwS xs p k).set (xs.length - 1 - k) (lim (lowL xs p) (xs.length - 1 - k))) := Lib.hid rfl
    have hx := lim_lt hlow (by decide) (xs.length - 1 - k)
    have hov : Hid (lim (lowL xs p) (xs.length - 1 - k) = shrw (lim xs (xs.length - 1 - k)) p ||| shlw (lim xs (xs.length - k)) (64 - p)) := Lib.hid (by
      rw [lowL_lim (by omega), show xs.length - 1 - k + 1 = xs.length - k by omega])
    have hnx : Hid (xs.length - (k + 1) = xs.length - 1 - k) := Lib.hid (by omega)
    have hol := shlw_lt (lim xs (xs.length - k)) (64 - p)
    have hil : xs.length - 1 - k < xs.length := by omega
    generalize lwS xs p k = s at *
    generalize shlw (lim xs (xs.length - k)) (64 - p) = o at *
    generalize xs.length - 1 - k = i at *
    have hkc := c5.cell (j := i) (by omega)
    have hfr := c5.frozen (off + i)
    have F1 := Lib.hid f1
    clear f1 f2
    have hor := bits_or_u64_nat (shrw (lim xs i) p) o (Nat.lt_of_le_of_lt (shrw_le _ _) hx) hol
    have hshr : (lim xs i : Int) / 2 ^ p = (shrw (lim xs i) p : Int) := by have := div_shr (lim xs i) p (by omega); rwa [Nat.min_eq_left (by omega)] at this
    have hshl : IntKind.u64.wrap ((lim xs i : Int) * 2 ^ (64 - p)) = (shlw (lim xs i) (64 - p) : Int) := by have := wrap_shl hx (p := 64 - p) (by omega); rwa [Nat.min_eq_left (by omega)] at this
    have hshl2 : IntKind.u64.wrap ((lim xs i : Int) * 2 ^ min (64 - p) 64) = (shlw (lim xs i) (64 - p) : Int) := wrap_shl hx (p := 64 - p) (by omega)
    have hsl : i < s.length := by rw [F1.out]; exact hil
    have d5 := c5.set i (shrw (lim xs i) p ||| o) hsl
    have d1 := c1.far (p := ⟨S, off + i, none⟩) (by (try dsimp only); omega) (.int .u64 ((shrw (lim xs i) p ||| o : Nat) : Int))
    have d2 := c2.far (p := ⟨S, off + i, none⟩) (by (try dsimp only); omega) (.int .u64 ((shrw (lim xs i) p ||| o : Nat) : Int))
    have d3 := c3.far (p := ⟨S, off + i, none⟩) (by (try dsimp only); omega) (.int .u64 ((shrw (lim xs i) p ||| o : Nat) : Int))
    have d4 := c4.far (p := ⟨S, off + i, none⟩) (by (try dsimp only); omega) (.int .u64 ((shrw (lim xs i) p ||| o : Nat) : Int))
    have dO := hO.set (p := ⟨S, off + i, none⟩) (.inl rfl) (.int .u64 ((shrw (lim xs i) p ||| o : Nat) : Int))
    have k3 := d3.cell
    have g3 := d3.frozen
    have k2 := d2.cell
    have e1 := d1.far (p := ⟨w.heap.size + 1 + 1, 0, none⟩) (by (try dsimp only); omega) (.int .u64 (shlw (lim xs i) (64 - p) : Int))
    have e2 := d2.far (p := ⟨w.heap.size + 1 + 1, 0, none⟩) (by (try dsimp only); omega) (.int .u64 (shlw (lim xs i) (64 - p) : Int))
    have e4 := d4.far (p := ⟨w.heap.size + 1 + 1, 0, none⟩) (by (try dsimp only); omega) (.int .u64 (shlw (lim xs i) (64 - p) : Int))
    have e5 := d5.far (p := ⟨w.heap.size + 1 + 1, 0, none⟩) (by (try dsimp only); omega) (.int .u64 (shlw (lim xs i) (64 - p) : Int))
    have e3 := d3.set (.int .u64 (shlw (lim xs i) (64 - p) : Int))
    have eO := dO.set (p := ⟨w.heap.size + 1 + 1, 0, none⟩) (.inr (by (try dsimp only); omega)) (.int .u64 (shlw (lim xs i) (64 - p) : Int))
    have i4 : (0 : Int) ≤ 64 - (p : Int) := by omega
    have t3 : (64 - (p : Int)).toNat = 64 - p := by omega
    have hii : (i : Int) < (xs.length : Int) := by omega
    gi_wp2
    refine region_round hmx (by kernel_rfl) (by rintro ⟨_, _, h⟩; exact h) (fun u => u.cell? ⟨w.heap.size, 0, none⟩ = some (.slice (some ⟨S, off, none⟩) xs.length cap) ∧ u.cell? ⟨w.heap.size + 1, 0, none⟩ = some (.int .i64 (p : Int)) ∧ u.cell? ⟨w.heap.size + 1 + 1, 0, none⟩ = some (.int .u64 (o : Int))) ⟨c1.cell, c2.cell, c3.cell⟩ (fun hHeld => ?_)
    refine wpAnyH_take (i := 0) (v := ?_) rfl (by kernel_rfl) (by kernel_rfl) (by kernel_rfl) (fun _ _ _ h => h) (Or.inl ⟨by rfl, ?_⟩) (by assumption) ?_
    rotate_left
    · (intro _ hSw; (try dsimp only at hSw); (first | (go_simp; done) | (go_simp; with_reducible rfl)))
    try simp only [Act.put, List.getElem_toArray, List.getElem_cons_zero, List.setIfInBounds_toArray, List.set_cons_zero, List.set_cons_succ]
    refine wpAnyH_take (i := 1) (v := ?_) rfl (by kernel_rfl) (by kernel_rfl) (by kernel_rfl) (fun _ _ _ h => h) (Or.inl ⟨by rfl, ?_⟩) (by assumption) ?_
    rotate_left
    · (intro _ hSw; (try dsimp only at hSw); (first | (go_simp; done) | (go_simp; with_reducible rfl)))
    try simp only [Act.put, List.getElem_toArray, List.getElem_cons_zero, List.getElem_cons_succ, List.setIfInBounds_toArray, List.set_cons_zero, List.set_cons_succ]
    refine wpAnyH_take (i := 2) (v := ?_) rfl (by kernel_rfl) (by kernel_rfl) (by kernel_rfl) (fun _ _ _ h => h) (Or.inl ⟨by rfl, ?_⟩) (by assumption) ?_
    rotate_left
    · (intro _ hSw; (try dsimp only at hSw); (first | (go_simp; done) | (go_simp; with_reducible rfl)))
    try simp only [Act.put, List.getElem_toArray, List.getElem_cons_zero, List.getElem_cons_succ, List.setIfInBounds_toArray, List.set_cons_zero, List.set_cons_succ]
    refine wpAnyH_take (i := 3) (v := ?_) rfl (by kernel_rfl) (by kernel_rfl) (by kernel_rfl) (fun _ _ _ h => h) (Or.inl ⟨by rfl, ?_⟩) (by assumption) ?_
    rotate_left
    · (intro _ hSw; (try dsimp only at hSw); (first | (go_simp; done) | (go_simp; with_reducible rfl)))
    try simp only [Act.put, List.getElem_toArray, List.getElem_cons_zero, List.getElem_cons_succ, List.setIfInBounds_toArray, List.set_cons_zero, List.set_cons_succ]
    refine wpAnyH_take (i := 4) (v := ?_) rfl (by kernel_rfl) (by kernel_rfl) (by kernel_rfl) (fun _ _ _ h => h) (Or.inl ⟨by rfl, ?_⟩) (by assumption) ?_
    rotate_left
    · (intro _ hSw; (try dsimp only at hSw); (first | (go_simp; done) | (go_simp; with_reducible rfl)))
    try simp only [Act.put, List.getElem_toArray, List.getElem_cons_zero, List.getElem_cons_succ, List.setIfInBounds_toArray, List.set_cons_zero, List.set_cons_succ]
    refine wpAnyH_take (i := 5) (v := ?_) rfl (by kernel_rfl) (by kernel_rfl) (by kernel_rfl) (fun _ _ _ h => h) (Or.inl ⟨by rfl, ?_⟩) (by assumption) ?_
    rotate_left
    · (intro _ hSw; (try dsimp only at hSw); (first | (go_simp; done) | (go_simp; with_reducible rfl)))
    try simp only [Act.put, List.getElem_toArray, List.getElem_cons_zero, List.getElem_cons_succ, List.setIfInBounds_toArray, List.set_cons_zero, List.set_cons_succ]
    refine wpAnyH_take (i := 6) (v := ?_) rfl (by kernel_rfl) (by kernel_rfl) (by kernel_rfl) (fun _ _ _ h => h) (Or.inl ⟨by rfl, ?_⟩) (by assumption) ?_
    rotate_left
    · (intro _ hSw; (try dsimp only at hSw); (first | (go_simp; done) | (go_simp; with_reducible rfl)))
    try simp only [Act.put, List.getElem_toArray, List.getElem_cons_zero, List.getElem_cons_succ, List.setIfInBounds_toArray, List.set_cons_zero, List.set_cons_succ]
    refine wpAnyH_take (i := 7) (v := ?_) rfl (by kernel_rfl) (by kernel_rfl) (by kernel_rfl) (fun _ _ _ h => h) (Or.inl ⟨by rfl, ?_⟩) (by assumption) ?_
    rotate_left
    · (intro _ hSw; (try dsimp only at hSw); (first | (go_simp; done) | (go_simp; with_reducible rfl)))
    try simp only [Act.put, List.getElem_toArray, List.getElem_cons_zero, List.getElem_cons_succ, List.setIfInBounds_toArray, List.set_cons_zero, List.set_cons_succ]
    refine wpAnyH_ready (rs := [8]) (by kernel_rfl) (by simp) ?_
    refine AllReadyH.cons rfl (fun K hK => ?_) AllReadyH.nil
    go_simp
    refine hK.out _ _ ⟨d1.cell, d2.cell, d3.cell⟩ (fun hHeld => ?_)
    clear hK K
    try simp only [Act.put, List.getElem_toArray, List.getElem_cons_zero, List.getElem_cons_succ, List.setIfInBounds_toArray, List.set_cons_zero, List.set_cons_succ]
    refine wpAnyH_done (by kernel_rfl) ?_ _
    gi_wp2
    exact ⟨(((KeepsOthers.setCell _ _ _).trans (KeepsOthers.setCell _ _ _)).trans (KeepsOthers.drew _)).from _, ⟨e1, e2, by rw [hnx.out]; exact e3, e4, by rw [hst.out, hov.out]; exact e5⟩, eO.drew⟩
  case done =>
    rintro D W hD ⟨⟨c1, c2, c3, c4, c5⟩, hO⟩ hK
    rw [hW0] at hD
    have k1 := c1.cell
    rw [lwS_all] at c5
    have hlL := lowL_length xs p
    have hrd := c5.rd (cap := cap) (by omega)
    rw [hlL] at hrd
    have hlt := c5.lt
    have hlw := lowL_low hlow p
    have hlr : (lowL xs p).length ≤ 17592186044416 := by omega
    have HR := Lib.hid hrd
    have HL := Lib.hid hlL
    clear hrd hlL
    gi_wp2_with (refine ⟨trivial, ?_⟩; gi_at_call 162; refine (callsIn_wide.2 (ntrim_calls S _ (lowL xs p) hlr hlw _ hlt HR.out)).mono ?_; rintro e w2 ⟨v', rfl, hr2, hb2⟩)
    have hD2 : D < W.heap.size := (Array.getElem?_eq_some_iff.1 hK).1
    have hK2 := (hb2.block D hD2).trans hK
    refine ⟨by simp, .inl ⟨_, _, rfl, run_takeDeferred hK2, ?_⟩⟩
    refine ⟨_, results_tmp rfl _ _ _, v', rfl, ?_, ?_, ?_⟩
    · rw [← hfin.out]
      exact hr2.kept (World.putObj_heap_other (by omega))
    · exact (c5.wb.behind hb2).kept (World.putObj_heap_other (by omega))
    · exact (hO.below (hb2.mono hO.size)).below (belowK_b (w := w) (Nat.le_refl _) w2 D _ _ (by omega) hK2 rfl rfl)
  case stop =>
    rintro D c W _ h _
    exact h.elim
theorem lower_calls (S off cap : Nat) (xs : List Nat) (p : Nat) (hreach : xs.length ≤ 17592186044416) (hcap : xs.length ≤ cap) (hp : p < 64) (hlow : Low 18446744073709551616 xs) (w : World) (hI : Seg w S off xs) :
    Calls Try.prog 155 #[.slice (some ⟨S, off, none⟩) xs.length cap, .int .i64 (p : Int)] w fun e W' => ∃ v', e = .returned v' ∧ RdAt S W' v' (digs 18446744073709551616 (val 18446744073709551616 xs / 2 ^ p)) ∧ Wb W' S ∧ Off S w W' :=
  callsIn_wide.1 (lower_in 6 (Nat.le_refl _) S off cap xs p hreach hcap hp hlow w hI)
end Go.Proofs.Ytdcebkhdnhdejaa
