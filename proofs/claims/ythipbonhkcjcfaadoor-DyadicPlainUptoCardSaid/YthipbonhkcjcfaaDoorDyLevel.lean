/- dyadic's level: two numbers as whole ones times the same power of two. -/
import Derived.Test.YthipbonhkcjcfaaDoorDyBox
namespace Go.Proofs.YthipbonhkcjcfaaDoor
open Go.RowKit Go.Shelf
attribute [local go_sem ↓] Go.wp_at_zero Go.wp_at_succ

theorem info_whole : (Tryd.prog.info? 57).map (fun i => (i.zero, i.size, i.bytes)) = some (some (.agg #[.bool false, .slice none 0 0]), 2, 32) := by kernel_rfl
theorem make_whole2 (u : World) : (Instr.makeSlice 53 (.int .i64 2) (.int .i64 2)).run Tryd.prog u = .ok (.slice (some ⟨u.heap.size, 0, none⟩) 2 2) (u.alloc (.cells #[.bool false, .slice none 0 0, .bool false, .slice none 0 0] 57)) := by
  obtain ⟨i0, hi, hz0, hz1, hz2⟩ := info_parts info_whole
  have h := run_make (P := Tryd.prog) u 53 57 i0 (.agg #[.bool false, .slice none 0 0]) Tryd.underlying53 hi hz0 .i64 .i64 2 2 (by omega) (Int.le_refl _) (by rw [hz2]; omega) (by omega)
  rw [h, hz1, show madeCells (Value.agg #[Value.bool false, Value.slice none 0 0]).cells (Int.toNat 2 * 2) = #[.bool false, .slice none 0 0, .bool false, .slice none 0 0] by kernel_rfl]
  rfl
def mnE (E : Nat → Int) : Nat → Int
  | 0 => 16384
  | k + 1 => min (mnE E k) (E k)
def upd {α : Type} (f : Nat → α) (k : Nat) (v : α) (j : Nat) : α := if j = k then v else f j
theorem upd_same {α : Type} (f : Nat → α) (k : Nat) (v : α) : upd f k v k = v := if_pos rfl
theorem upd_other {α : Type} (f : Nat → α) {k j : Nat} (v : α) (h : j ≠ k) : upd f k v j = f j := if_neg h
/-- what two whole numbers' cells are -/
def wcs (p : Nat → Bool) (A : Nat → Option Addr) (L C : Nat → Nat) : Array Value := #[.bool (p 0), .slice (A 0) (L 0) (C 0), .bool (p 1), .slice (A 1) (L 1) (C 1)]
theorem Num.set {W : World} {v : Value} {N i T j : Nat} {p : Nat → Bool} {A : Nat → Option Addr} {L C : Nat → Nat} (h : Num W v N i) (G : Cs W T (wcs p A L C) 57) (u : Value) : Num (W.setCell ⟨T, j, none⟩ u) v N i := by
  obtain ⟨xs, ⟨b, h1, h2⟩, h3⟩ := h
  refine ⟨xs, ⟨b, by simpa [World.setCell] using h1, ?_⟩, h3⟩
  rcases h2 with h2 | ⟨off, cap, e, hl, hc⟩
  · exact .inl h2
  · refine .inr ⟨off, cap, e, hl, fun q hq => ?_⟩
    by_cases hb : b = T
    · subst hb
      have h4 := hc q hq
      rw [cell_of_row W b (off + q) _ _ (0, 0) G] at h4
      have h5 : off + q < 4 := by
        rcases Nat.lt_or_ge (off + q) 4 with h | h
        · exact h
        · rw [Array.getElem?_eq_none (by simpa [wcs] using h)] at h4; cases h4
      generalize off + q = z at h4 h5
      have : z = 0 ∨ z = 1 ∨ z = 2 ∨ z = 3 := by omega
      rcases this with rfl | rfl | rfl | rfl <;> (simp [wcs] at h4)
    · exact (World.cell?_of_block (w := W) (a := ⟨b, off + q, none⟩) (Below.heap_setCell W ⟨T, j, none⟩ u b hb)).trans (hc q hq)
theorem lev_put {W : World} {T k : Nat} {p : Nat → Bool} {A : Nat → Option Addr} {L C : Nat → Nat} (hk : k < 2) (G : Cs W T (wcs p A L C) 57) (b : Bool) (a : Option Addr) (l c : Nat) :
    Cs ((W.setCell ⟨T, k * 2, none⟩ (.bool b)).setCell ⟨T, k * 2 + 1, none⟩ (.slice a l c)) T (wcs (upd p k b) (upd A k a) (upd L k l) (upd C k c)) 57 := by
  have : k = 0 ∨ k = 1 := by omega
  rcases this with rfl | rfl <;> exact (G.set _ _).set _ _
theorem lev_abs {W : World} {T k : Nat} {p : Nat → Bool} {A : Nat → Option Addr} {L C : Nat → Nat} (hk : k < 2) (G : Cs W T (wcs p A L C) 57) (a : Option Addr) (l c : Nat) :
    Cs (W.setCell ⟨T, k * 2 + 1, none⟩ (.slice a l c)) T (wcs p (upd A k a) (upd L k l) (upd C k c)) 57 := by
  have : k = 0 ∨ k = 1 := by omega
  rcases this with rfl | rfl <;> exact G.set _ _
theorem Num.put2 {W : World} {v : Value} {N i T k : Nat} {p : Nat → Bool} {A : Nat → Option Addr} {L C : Nat → Nat} (h : Num W v N i) (hk : k < 2) (G : Cs W T (wcs p A L C) 57) (b : Bool) (a : Option Addr) (l c : Nat) :
    Num ((W.setCell ⟨T, k * 2, none⟩ (.bool b)).setCell ⟨T, k * 2 + 1, none⟩ (.slice a l c)) v N i := by
  have h1 := h.set (j := k * 2) G (.bool b)
  have : k = 0 ∨ k = 1 := by omega
  rcases this with rfl | rfl
  · exact h1.set (p := upd p 0 b) (A := A) (L := L) (C := C) (G.set _ _) _
  · exact h1.set (p := upd p 1 b) (A := A) (L := L) (C := C) (G.set _ _) _
theorem Num.wide {w : World} {v : Value} {N i j : Nat} (h : Num w v N i) (hij : i ≤ j) : Num w v N j := by
  obtain ⟨xs, h1, h2, h3, h4⟩ := h
  exact ⟨xs, h1, h2, h3, by omega⟩
theorem two_lt {g K : Nat} (h : g < 64 * K) : 2 ^ g < 18446744073709551616 ^ K := by
  rw [show 18446744073709551616 = 2 ^ 64 from rfl, ← Nat.pow_mul]
  exact Nat.pow_lt_pow_right (by decide) h
theorem New.shl {n : Nat} {w W : World} {v v' : Value} {M g i K j : Nat} (nt : New n W v (digs 18446744073709551616 (M * 2 ^ g))) (hM : Num w v' M i) (hg : g < 64 * K) (hj : j = i + K) : Num W v (M * 2 ^ g) j := by
  subst hj
  exact nt.num (pow_mul_lt hM.lt (two_lt hg))
set_option maxRecDepth 100000 in
set_option maxHeartbeats 1000000 in
theorem level_any (S : Nat) (s : Nat → Bool) (a : Nat → Option Addr) (m cap M : Nat → Nat) (E : Nat → Int) (w : World) (hS : S < w.heap.size)
    (hc : ∀ k, k < 2 → w.cell? ⟨S, k * 3, none⟩ = some (.bool (s k)) ∧ w.cell? ⟨S, k * 3 + 1, none⟩ = some (.slice (a k) (m k) (cap k)) ∧ w.cell? ⟨S, k * 3 + 2, none⟩ = some (.int .i64 (E k)))
    (hE : ∀ k, k < 2 → -16384 ≤ E k ∧ E k ≤ 16384) (hM : ∀ k, k < 2 → Num w (.slice (a k) (m k) (cap k)) (M k) 1024) :
    Calls Tryd.prog 28 #[.slice (some ⟨S, 0, none⟩) 2 2] w fun e W' => ∃ (T : Nat) (A : Nat → Option Addr) (L C : Nat → Nat), e = .returned (.tuple #[.slice (some ⟨T, 0, none⟩) 2 2, .int .i64 (mnE E 2)]) ∧
      Cs W' T (wcs s A L C) 57 ∧ (∀ k, k < 2 → Num W' (.slice (A k) (L k) (C k)) (M k * 2 ^ (E k - mnE E 2).toNat) 1537) ∧ Below w.heap.size w W' := by
  have HC := Lib.hid hc
  have HE := Lib.hid hE
  have HM := Lib.hid hM
  clear hc hE hM
  go_enter Tryd.func28, Tryd.ntmps28
  go_wp2
  go_loopw [4, 13] (fun x i wr => ∃ k : Nat, k ≤ 2 ∧ i = .int .i64 k ∧ x = .int .i64 (mnE E k) ∧ Below w.heap.size w wr) (fun _ i _ => 2 - (intOf i).toNat)
  case atStart => exact ⟨0, Nat.zero_le _, rfl, rfl, Below.refl _ _⟩
  case round =>
    obtain ⟨k, hk, rfl, rfl, hB⟩ := hrel
    by_cases hlt : k < 2
    · obtain ⟨c0, c1, c2⟩ := HC.out k hlt
      have c0 := (hB.cell (p := ⟨S, k * 3, none⟩) hS).trans c0
      have c1 := (hB.cell (p := ⟨S, k * 3 + 1, none⟩) hS).trans c1
      have c2 := (hB.cell (p := ⟨S, k * 3 + 2, none⟩) hS).trans c2
      have hbx := hB.trans ((bel_alloc wr (.cells #[.bool (s k), .slice (a k) (m k) (cap k), .int .i64 (E k)] 24)).mono hB.size)
      go_wp2
      go_roundw
      case rel => exact ⟨k + 1, by omega, by go_num, rfl, hbx⟩
      case measure => simp [intOf]; omega
    · have hk2 : k = 2 := by omega
      generalize hx : mnE E k = x
      have HX : Hid (mnE E 2 = x) := Lib.hid (by rw [← hx, hk2])
      clear hx hk2
      have hmk : ∀ u : World, (Instr.makeSlice 53 (.int .i64 2) (.int .i64 2)).run Tryd.prog u = .ok (.slice (some ⟨u.heap.size, 0, none⟩) 2 2) (u.alloc (.cells #[.bool false, .slice none 0 0, .bool false, .slice none 0 0] 57)) := make_whole2
      obtain ⟨wo, rfl⟩ : ∃ wo : World, wo = wr := ⟨_, rfl⟩
      have hbo := dbox1 wo #[.bool false, .slice none 0 0, .bool false, .slice none 0 0] 57 _ rfl
      go_wp2_with fail
      generalize (wo.alloc (.cells #[.bool false, .slice none 0 0, .bool false, .slice none 0 0] 57)) = W5 at hbo ⊢
      obtain ⟨b5, G5, z5⟩ := hbo
      have B5 := hB.trans (b5.mono hB.size)
      have hTw : w.heap.size ≤ wo.heap.size := hB.size
      generalize wo.heap.size = T at G5 z5 hTw ⊢
      clear b5 hB hmk
      go_loopw [27] (fun i wr => ∃ (k : Nat) (p : Nat → Bool) (A : Nat → Option Addr) (L C : Nat → Nat), k ≤ 2 ∧ i = .int .i64 k ∧ Cs wr T (wcs p A L C) 57 ∧ Hid (∀ j, j < k → p j = s j ∧ Num wr (.slice (A j) (L j) (C j)) (M j * 2 ^ (E j - x).toNat) 1537) ∧ Below w.heap.size w wr) (fun i _ => 2 - (intOf i).toNat)
      case atStart => exact ⟨0, fun _ => false, fun _ => none, fun _ => 0, fun _ => 0, by omega, rfl, G5, Lib.hid (fun j hj => by omega), B5⟩
      case round =>
        obtain ⟨k, p, A, L, C, hk, rfl, G, hall, hB⟩ := hrel
        by_cases hlt : k < 2
        · obtain ⟨c0, c1, c2⟩ := HC.out k hlt
          have hNk := (HM.out k hlt).behind hB
          obtain ⟨hE1, hE2⟩ := HE.out k hlt
          have hxk : x ≤ E k ∧ -16384 ≤ x := by
            have e0 := HE.out 0 (by omega)
            have e1 := HE.out 1 (by omega)
            have : k = 0 ∨ k = 1 := by omega
            rw [← HX.out]
            simp only [mnE]
            rcases this with rfl | rfl <;> omega
          have c0 := (hB.cell (p := ⟨S, k * 3, none⟩) hS).trans c0
          have c1 := (hB.cell (p := ⟨S, k * 3 + 1, none⟩) hS).trans c1
          have c2 := (hB.cell (p := ⟨S, k * 3 + 2, none⟩) hS).trans c2
          have d0 : wr.cell? ⟨T, k * 2, none⟩ = some (.bool (p k)) := by
            have : k = 0 ∨ k = 1 := by omega
            rcases this with rfl | rfl <;> exact G.cell rfl
          have d1 : wr.cell? ⟨T, k * 2 + 1, none⟩ = some (.slice (A k) (L k) (C k)) := by
            have : k = 0 ∨ k = 1 := by omega
            rcases this with rfl | rfl <;> exact G.cell rfl
          have f0 := G.f (k * 2)
          have f1 := G.f (k * 2 + 1)
          obtain ⟨g, hg⟩ : ∃ g : Nat, E k - x = g := ⟨(E k - x).toNat, by omega⟩
          have hT := G.lt
          have hput := lev_put hlt G (s k) (a k) (m k) (cap k)
          have hbx := dbox1 ((wr.setCell ⟨T, k * 2, none⟩ (.bool (s k))).setCell ⟨T, k * 2 + 1, none⟩ (.slice (a k) (m k) (cap k))) #[.bool (s k), .slice (a k) (m k) (cap k), .int .i64 (E k)] 24 _ rfl
          have hkeep : ∀ (v : Value) (N i : Nat), Num wr v N i → Num (((wr.setCell ⟨T, k * 2, none⟩ (.bool (s k))).setCell ⟨T, k * 2 + 1, none⟩ (.slice (a k) (m k) (cap k))).alloc (.cells #[.bool (s k), .slice (a k) (m k) (cap k), .int .i64 (E k)] 24)) v N i := fun _ _ _ h => (h.put2 hlt G _ _ _ _).behind hbx.1
          have hB2 := ((hB.setCell (p := ⟨T, k * 2, none⟩) hTw (.bool (s k))).setCell (p := ⟨T, k * 2 + 1, none⟩) hTw (.slice (a k) (m k) (cap k)))
          have hB3 := hB2.trans (hbx.1.mono hB2.size)
          have G3 := hput.behind hbx.1
          have KEEP := Lib.hid hkeep
          clear hkeep hput hB2 hbx
          by_cases hg0 : 0 < g
          · go_wp2_with fail
            generalize (((wr.setCell ⟨T, k * 2, none⟩ (.bool (s k))).setCell ⟨T, k * 2 + 1, none⟩ (.slice (a k) (m k) (cap k))).alloc (.cells #[.bool (s k), .slice (a k) (m k) (cap k), .int .i64 (E k)] 24)) = W6 at KEEP hB3 G3 ⊢
            refine (shl_num (KEEP.out _ _ _ hNk) (by omega) (m := g) (by omega)).mono ?_
            rintro e w7 ⟨v, rfl, nt, b7⟩
            obtain ⟨a1, q1, rfl, -⟩ := nt.slice
            have hNg := nt.shl (K := 513) (j := 1537) hNk (by omega) rfl
            generalize (digs 18446744073709551616 (M k * 2 ^ g)).length = l1 at hNg ⊢
            have G7 := G3.behind b7
            have B7 := hB3.trans (b7.mono hB3.size)
            have KEEP7 : Hid (∀ (v : Value) (N i : Nat), Num wr v N i → Num w7 v N i) := Lib.hid fun _ _ _ h => (KEEP.out _ _ _ h).behind b7
            clear KEEP c0 c1 c2 d0 d1 f0 f1
            have d1 : w7.cell? ⟨T, k * 2 + 1, none⟩ = some (.slice (a k) (m k) (cap k)) := by
              have : k = 0 ∨ k = 1 := by omega
              rcases this with rfl | rfl <;> exact G7.cell rfl
            have f1 := G7.f (k * 2 + 1)
            have z7 := G7.lt
            have hfin : Hid ((∀ j, j < k + 1 → upd p k (s k) j = s j ∧ Num (w7.setCell ⟨T, k * 2 + 1, none⟩ (.slice a1 l1 q1)) (.slice (upd (upd A k (a k)) k a1 j) (upd (upd L k (m k)) k l1 j) (upd (upd C k (cap k)) k q1 j)) (M j * 2 ^ (E j - x).toNat) 1537)) := Lib.hid fun j hj => by
              by_cases e : j = k
              · subst e
                rw [upd_same, upd_same, upd_same, upd_same, hg]
                exact ⟨rfl, hNg.set G7 _⟩
              · rw [upd_other _ _ e, upd_other _ _ e, upd_other _ _ e, upd_other _ _ e, upd_other _ _ e, upd_other _ _ e, upd_other _ _ e]
                have h := hall.out j (by omega)
                exact ⟨h.1, (KEEP7.out _ _ _ h.2).set G7 _⟩
            clear nt KEEP7
            go_wp2
            go_roundw
            case rel => exact ⟨k + 1, _, _, _, _, by omega, by go_num, lev_abs hlt G7 a1 l1 q1, hfin, B7.setCell (p := ⟨T, k * 2 + 1, none⟩) hTw _⟩
            case measure => simp [intOf]; omega
          · obtain rfl : g = 0 := by omega
            have hfin : Hid ((∀ j, j < k + 1 → upd p k (s k) j = s j ∧ Num _ (.slice (upd A k (a k) j) (upd L k (m k) j) (upd C k (cap k) j)) (M j * 2 ^ (E j - x).toNat) 1537)) := Lib.hid fun j hj => by
              by_cases e : j = k
              · subst e
                rw [upd_same, upd_same, upd_same, upd_same, hg]
                exact ⟨rfl, by simpa using KEEP.out _ _ _ (hNk.wide (by omega))⟩
              · rw [upd_other _ _ e, upd_other _ _ e, upd_other _ _ e, upd_other _ _ e]
                have h := hall.out j (by omega)
                exact ⟨h.1, KEEP.out _ _ _ h.2⟩
            clear KEEP
            go_wp2
            go_roundw
            case rel => exact ⟨k + 1, _, _, _, _, by omega, by go_num, G3, hfin, hB3⟩
            case measure => simp [intOf]; omega
        · obtain rfl : k = 2 := by omega
          have hp : wcs p A L C = wcs s A L C := by
            unfold wcs
            rw [(hall.out 0 (by omega)).1, (hall.out 1 (by omega)).1]
          rw [hp] at G
          have hN : Hid (∀ k, k < 2 → Num wr (.slice (A k) (L k) (C k)) (M k * 2 ^ (E k - mnE E 2).toNat) 1537) := Lib.hid fun k hk => by rw [HX.out]; exact (hall.out k hk).2
          clear hp
          go_wp2
          go_ret2
          exact ⟨T, A, L, C, by rw [HX.out]; rfl, G, hN.out, hB⟩
end Go.Proofs.YthipbonhkcjcfaaDoor

/- dyadic's Cmp: which one of two numbers is greater. -/
namespace Go.Proofs.YthipbonhkcjcfaaDoor
open Go.RowKit Go.Shelf
attribute [local go_sem ↓] Go.wp_at_zero Go.wp_at_succ

theorem mnE_two (E : Nat → Int) (h0 : E 0 ≤ 16384) : mnE E 2 = min (E 0) (E 1) := by
  simp only [mnE]; omega
theorem level_two {s s' : Bool} {a a' : Option Addr} {m cap m' cap' M M' S : Nat} {E E' : Int} {w : World} (G : Cs w S #[.bool s, .slice a m cap, .int .i64 E, .bool s', .slice a' m' cap', .int .i64 E'] 24) (hA : Num w (.slice a m cap) M 1024) (hA' : Num w (.slice a' m' cap') M' 1024)
    (h1 : -16384 ≤ E) (h2 : E ≤ 16384) (h3 : -16384 ≤ E') (h4 : E' ≤ 16384) :
    Calls Tryd.prog 28 #[.slice (some ⟨S, 0, none⟩) 2 2] w fun e W' => ∃ (U : Nat) (a1 : Option Addr) (l1 k1 : Nat) (a2 : Option Addr) (l2 k2 : Nat), e = .returned (.tuple #[.slice (some ⟨U, 0, none⟩) 2 2, .int .i64 (min E E')]) ∧
      Cs W' U #[.bool s, .slice a1 l1 k1, .bool s', .slice a2 l2 k2] 57 ∧ Wv W' s a1 l1 k1 (lev s M E (min E E')) 1537 ∧ Wv W' s' a2 l2 k2 (lev s' M' E' (min E E')) 1537 ∧ Below w.heap.size w W' := by
  have hmn := mnE_two (fun k => if k = 0 then E else E') h2
  refine (level_any S (fun k => if k = 0 then s else s') (fun k => if k = 0 then a else a') (fun k => if k = 0 then m else m') (fun k => if k = 0 then cap else cap') (fun k => if k = 0 then M else M') (fun k => if k = 0 then E else E') w G.lt ?_ ?_ ?_).mono ?_
  · intro k hk
    have : k = 0 ∨ k = 1 := by omega
    rcases this with rfl | rfl <;> exact ⟨G.cell rfl, G.cell rfl, G.cell rfl⟩
  · intro k hk
    have : k = 0 ∨ k = 1 := by omega
    rcases this with rfl | rfl
    · exact ⟨h1, h2⟩
    · exact ⟨h3, h4⟩
  · intro k hk
    have : k = 0 ∨ k = 1 := by omega
    rcases this with rfl | rfl
    · exact hA
    · exact hA'
  · rintro e W' ⟨U, A, L, C, he, hc, hN, hb⟩
    rw [hmn] at he hN
    refine ⟨U, A 0, L 0, C 0, A 1, L 1, C 1, he, hc, ⟨_, hN 0 (by omega), rfl⟩, ⟨_, hN 1 (by omega), rfl⟩, hb⟩

def CP (w : World) (ok : Bool) (c : Int) (e : Ending) (W' : World) : Prop := ∃ z q, e = .returned (.tuple #[.int .i64 z, .int .i64 q]) ∧ Below w.heap.size w W' ∧ (if ok then c else 0) = z ∧ (if ok then 0 else 9 : Int) = q
set_option maxRecDepth 100000 in
set_option maxHeartbeats 1000000 in
theorem dcmp {s s' : Bool} {a a' : Option Addr} {m cap m' cap' M M' i : Nat} {E E' : Int} {w : World} (hA : Num w (.slice a m cap) M i) (hA' : Num w (.slice a' m' cap') M' i) :
    Calls Tryd.prog 11 #[.agg #[.bool s, .slice a m cap, .int .i64 E], .agg #[.bool s', .slice a' m' cap', .int .i64 E']] w (CP w (mayB m E && mayB m' E') (cmpD s M E s' M' E')) := by
  have hb := dbox2 w #[.bool s, .slice a m cap, .int .i64 E] #[.bool s', .slice a' m' cap', .int .i64 E'] 24 24
  have hbs := fun W => dbox1 W #[.bool s, .slice a m cap, .int .i64 E, .bool s', .slice a' m' cap', .int .i64 E'] 24
  by_cases hm : (mayB m E && mayB m' E') = true
  · rw [hm]
    have hm' := hm
    rw [Bool.and_eq_true, mayB_iff, mayB_iff] at hm'
    obtain ⟨⟨e1, e2, e3⟩, e4, e5, e6⟩ := hm'
    have hA := num_may hA e3
    have hA' := num_may hA' e6
    have HM := Lib.hid hm
    clear hm
    go_enter Tryd.func11, Tryd.ntmps11
    go_wp2_with fail
    obtain ⟨hB, G, G2, hsz⟩ := hb _ rfl
    generalize ((w.alloc (.cells #[.bool s, .slice a m cap, .int .i64 E] 24)).alloc (.cells #[.bool s', .slice a' m' cap', .int .i64 E'] 24)) = W0 at hB G G2 hsz ⊢
    clear hb
    have c0 := G.cell (i := 0) rfl
    have c1 := G.cell (i := 1) rfl
    have c2 := G.cell (i := 2) rfl
    have c3 := G2.cell (i := 0) rfl
    have c4 := G2.cell (i := 1) rfl
    have c5 := G2.cell (i := 2) rfl
    go_wp2_with fail
    obtain ⟨b1, S, z1⟩ := hbs W0 _ rfl
    generalize (W0.alloc (.cells #[.bool s, .slice a m cap, .int .i64 E, .bool s', .slice a' m' cap', .int .i64 E'] 24)) = W1 at b1 S z1 ⊢
    rw [hsz] at S z1
    refine (checkAll_two_ok _ _ _ _ _ _ _ _ _ _ _ _ S HM.out).mono ?_
    rintro e w2 ⟨rfl, b2⟩
    have G := (G.behind b1).behind b2
    have G2 := (G2.behind b1).behind b2
    have B2 := below_both (below_both hB b1) b2
    have hA := hA.behind B2
    have hA' := hA'.behind B2
    have z2 := b2.size
    clear c0 c1 c2 c3 c4 c5 S
    have c0 := G.cell (i := 0) rfl
    have c1 := G.cell (i := 1) rfl
    have c2 := G.cell (i := 2) rfl
    have c3 := G2.cell (i := 0) rfl
    have c4 := G2.cell (i := 1) rfl
    have c5 := G2.cell (i := 2) rfl
    go_wp2_with fail
    obtain ⟨b3, S, z3⟩ := hbs w2 _ rfl
    generalize (w2.alloc (.cells #[.bool s, .slice a m cap, .int .i64 E, .bool s', .slice a' m' cap', .int .i64 E'] 24)) = W3 at b3 S z3 ⊢
    have hA := hA.behind b3
    have hA' := hA'.behind b3
    have B3 := below_both B2 b3
    refine (level_two S hA hA' e1 e2 e4 e5).mono ?_
    rintro e w4 ⟨U, a1, l1, k1, a2, l2, k2, rfl, GU, zA, zB, b4⟩
    have B4 := below_both B3 b4
    clear S c0 c1 c2 c3 c4 c5 G G2 hbs
    go_wp2_with fail
    have bd := (Below.refl (w4).heap.size (w4)).drew
    have zA := zA.behind bd
    have zB := zB.behind bd
    have GU := GU.behind bd
    have B5 := below_both B4 bd
    clear bd
    have c0 := GU.cell (i := 0) rfl
    have c1 := GU.cell (i := 1) rfl
    have c2 := GU.cell (i := 2) rfl
    have c3 := GU.cell (i := 3) rfl
    go_region_held3 (fun w' => w'.cell? ⟨U, 0, none⟩ = some (.bool s) ∧ w'.cell? ⟨U, 1, none⟩ = some (.slice a1 l1 k1) ∧ w'.cell? ⟨U, 2, none⟩ = some (.bool s') ∧ w'.cell? ⟨U, 3, none⟩ = some (.slice a2 l2 k2)) (first | exact ⟨GU.cell rfl, GU.cell rfl, GU.cell rfl, GU.cell rfl⟩ | (refine ⟨?_, ?_, ?_, ?_⟩ <;> go_keep))
      (first
        | (go_at_call 32; (with_reducible refine (zcmp zA zB (by omega) (by omega)).mono ?_); rintro e w6 ⟨rfl, b6⟩; have GU := GU.behind b6; have B6 := below_both B5 b6; clear b6))
    go_wp2
    go_ret2
    exact ⟨_, _, rfl, B6, rfl, rfl⟩
  · have hm : (mayB m E && mayB m' E') = false := by simpa using hm
    rw [hm]
    have HM := Lib.hid hm
    clear hm
    go_enter Tryd.func11, Tryd.ntmps11
    go_wp2_with fail
    obtain ⟨hB, G, G2, hsz⟩ := hb _ rfl
    generalize ((w.alloc (.cells #[.bool s, .slice a m cap, .int .i64 E] 24)).alloc (.cells #[.bool s', .slice a' m' cap', .int .i64 E'] 24)) = W0 at hB G G2 hsz ⊢
    clear hb
    have c0 := G.cell (i := 0) rfl
    have c1 := G.cell (i := 1) rfl
    have c2 := G.cell (i := 2) rfl
    have c3 := G2.cell (i := 0) rfl
    have c4 := G2.cell (i := 1) rfl
    have c5 := G2.cell (i := 2) rfl
    go_wp2_with fail
    obtain ⟨b1, S, z1⟩ := hbs W0 _ rfl
    generalize (W0.alloc (.cells #[.bool s, .slice a m cap, .int .i64 E, .bool s', .slice a' m' cap', .int .i64 E'] 24)) = W1 at b1 S z1 ⊢
    rw [hsz] at S z1
    refine (checkAll_two_no _ _ _ _ _ _ _ _ _ _ _ _ S HM.out).mono ?_
    rintro e w2 ⟨rfl, b2⟩
    have B2 := below_both (below_both hB b1) b2
    clear c0 c1 c2 c3 c4 c5 S G G2 hbs
    go_wp2
    go_ret2
    exact ⟨_, _, rfl, B2, rfl, rfl⟩
end Go.Proofs.YthipbonhkcjcfaaDoor

/- dyadic's Mul: the product of two numbers. -/
namespace Go.Proofs.YthipbonhkcjcfaaDoor
open Go.RowKit Go.Shelf
attribute [local go_sem ↓] Go.wp_at_zero Go.wp_at_succ

theorem bne_xor (s t : Bool) : (!s == t) = (s != t) := by cases s <;> cases t <;> rfl
set_option maxRecDepth 100000 in
set_option maxHeartbeats 2000000 in
theorem dmul {s s' : Bool} {a a' : Option Addr} {m cap m' cap' M M' i : Nat} {E E' : Int} {w : World} (hA : Num w (.slice a m cap) M i) (hA' : Num w (.slice a' m' cap') M' i) (hT : TabOk w) :
    Calls Tryd.prog 10 #[.agg #[.bool s, .slice a m cap, .int .i64 E], .agg #[.bool s', .slice a' m' cap', .int .i64 E']] w (DP w (resD (mayB m E && mayB m' E') (mulD s M E s' M' E')) (resE (mayB m E && mayB m' E') (mulD s M E s' M' E'))) := by
  have hb := dbox3 w #[.bool s, .slice a m cap, .int .i64 E] #[.bool s', .slice a' m' cap', .int .i64 E'] #[.bool false, .slice none 0 0, .int .i64 0] 24 24 24
  have hbs := fun W => dbox1 W #[.bool s, .slice a m cap, .int .i64 E, .bool s', .slice a' m' cap', .int .i64 E'] 24
  by_cases hm : (mayB m E && mayB m' E') = true
  · have hr : resD (mayB m E && mayB m' E') (mulD s M E s' M' E') = outD (mulD s M E s' M' E') ∧ resE (mayB m E && mayB m' E') (mulD s M E s' M' E') = outE (mulD s M E s' M' E') := by rw [hm]; exact ⟨rfl, rfl⟩
    rw [hr.1, hr.2]
    have hm' := hm
    rw [Bool.and_eq_true, mayB_iff, mayB_iff] at hm'
    obtain ⟨⟨e1, e2, e3⟩, e4, e5, e6⟩ := hm'
    have hA := num_may hA e3
    have hA' := num_may hA' e6
    have HM := Lib.hid hm
    clear hm hr
    have hw : IntKind.i64.wrap (E + E') = E + E' := IntWalk.i64_in _ (by omega)
    go_enter Tryd.func10, Tryd.ntmps10
    go_wp2_with fail
    obtain ⟨hB, G, G2, R, hsz⟩ := hb _ rfl
    generalize (((w.alloc (.cells #[.bool s, .slice a m cap, .int .i64 E] 24)).alloc (.cells #[.bool s', .slice a' m' cap', .int .i64 E'] 24)).alloc (.cells #[.bool false, .slice none 0 0, .int .i64 0] 24)) = W0 at hB G G2 R hsz ⊢
    clear hb
    have c0 := G.cell (i := 0) rfl
    have c1 := G.cell (i := 1) rfl
    have c2 := G.cell (i := 2) rfl
    have c3 := G2.cell (i := 0) rfl
    have c4 := G2.cell (i := 1) rfl
    have c5 := G2.cell (i := 2) rfl
    go_wp2_with fail
    obtain ⟨b1, S, z1⟩ := hbs W0 _ rfl
    generalize (W0.alloc (.cells #[.bool s, .slice a m cap, .int .i64 E, .bool s', .slice a' m' cap', .int .i64 E'] 24)) = W1 at b1 S z1 ⊢
    rw [hsz] at S z1
    refine (checkAll_two_ok _ _ _ _ _ _ _ _ _ _ _ _ S HM.out).mono ?_
    rintro e w2 ⟨rfl, b2⟩
    have G := (G.behind b1).behind b2
    have G2 := (G2.behind b1).behind b2
    have R := (R.behind b1).behind b2
    have B2 := below_both (below_both hB b1) b2
    have hA := hA.behind B2
    have hA' := hA'.behind B2
    have hT := hT.behind B2
    have z2 := b2.size
    clear c0 c1 c2 c3 c4 c5 S
    have c0 := G.cell (i := 0) rfl
    have c1 := G.cell (i := 1) rfl
    have c2 := G.cell (i := 2) rfl
    have c3 := G2.cell (i := 0) rfl
    have c4 := G2.cell (i := 1) rfl
    have c5 := G2.cell (i := 2) rfl
    go_wp2_with fail
    clear c0 c1 c2 c3 c4 c5
    have bd := (Below.refl (w2).heap.size (w2)).drew
    have hA := hA.behind bd
    have hA' := hA'.behind bd
    have hT := hT.behind bd
    have G := G.behind bd
    have G2 := G2.behind bd
    have R := R.behind bd
    have B3 := below_both B2 bd
    have hsz3 := R.lt
    clear bd
    have c0 := G.cell (i := 0) rfl
    have c1 := G.cell (i := 1) rfl
    have c2 := G.cell (i := 2) rfl
    have c3 := G2.cell (i := 0) rfl
    have c4 := G2.cell (i := 1) rfl
    have c5 := G2.cell (i := 2) rfl
    go_region_held3 (fun w' => w'.cell? ⟨w.heap.size, 0, none⟩ = some (.bool s) ∧ w'.cell? ⟨w.heap.size, 1, none⟩ = some (.slice a m cap) ∧ w'.cell? ⟨w.heap.size, 2, none⟩ = some (.int .i64 E) ∧ w'.cell? ⟨w.heap.size + 1, 0, none⟩ = some (.bool s') ∧ w'.cell? ⟨w.heap.size + 1, 1, none⟩ = some (.slice a' m' cap') ∧ w'.cell? ⟨w.heap.size + 1, 2, none⟩ = some (.int .i64 E')) (first | exact ⟨G.cell rfl, G.cell rfl, G.cell rfl, G2.cell rfl, G2.cell rfl, G2.cell rfl⟩ | exact ⟨(((G.put (by simp <;> omega) _).put (by simp <;> omega) _).put (by simp <;> omega) _).cell rfl, (((G.put (by simp <;> omega) _).put (by simp <;> omega) _).put (by simp <;> omega) _).cell rfl, (((G.put (by simp <;> omega) _).put (by simp <;> omega) _).put (by simp <;> omega) _).cell rfl, (((G2.put (by simp <;> omega) _).put (by simp <;> omega) _).put (by simp <;> omega) _).cell rfl, (((G2.put (by simp <;> omega) _).put (by simp <;> omega) _).put (by simp <;> omega) _).cell rfl, (((G2.put (by simp <;> omega) _).put (by simp <;> omega) _).put (by simp <;> omega) _).cell rfl⟩ | (refine ⟨?_, ?_, ?_, ?_, ?_, ?_⟩ <;> go_keep))
      (first
        | (have _ := B4; go_at_call 30; (with_reducible refine (dtold u (by omega) hT (by omega) (by omega)).mono ?_); rintro e w5 ⟨ta, tm, tc, ts, tn, tx, tq, rfl, nt, b5, hR, hQ⟩; have HR := Lib.hid hR; have HQ := Lib.hid hQ; clear hR hQ; have G := G.behind b5; have G2 := G2.behind b5; have R := R.behind b5; have B5 := below_both B4 b5; clear b5; have r0 := R.cell (i := 0) rfl; have r1 := R.cell (i := 1) rfl; have r2 := R.cell (i := 2) rfl; have f0 := R.f 0; have f1 := R.f 1; have f2 := R.f 2)
        | (go_at_call 31; (with_reducible refine (mul_num hA hA' (by omega)).mono ?_); rintro e w4 ⟨v, rfl, u, -, b4⟩; obtain ⟨xa, xm, xc, rfl⟩ := u.slice; have hT := hT.behind b4; have G := G.behind b4; have G2 := G2.behind b4; have R := R.behind b4; have z4 := b4.size; have B4 := below_both B3 b4; clear b4))
    go_wp2
    exact bodyPost_ret (v := .tuple #[.agg #[.bool ts, .slice ta tm tc, .int .i64 tx], .int .i64 tq]) (by simp [results, Tryd.results10, go_sem, r0, r1, r2]) rfl
      (dend (r := w.heap.size + 1 + 1) B5 (by omega) (by omega) nt (by rw [mulD, ← bne_xor]; exact HR.out) (by rw [mulD, ← bne_xor]; exact HQ.out))
  · have hm : (mayB m E && mayB m' E') = false := by simpa using hm
    have hr : resD (mayB m E && mayB m' E') (mulD s M E s' M' E') = ⟨false, 0, 0⟩ ∧ resE (mayB m E && mayB m' E') (mulD s M E s' M' E') = 9 := by rw [hm]; exact ⟨rfl, rfl⟩
    rw [hr.1, hr.2]
    have HM := Lib.hid hm
    clear hm hr
    go_enter Tryd.func10, Tryd.ntmps10
    go_wp2_with fail
    obtain ⟨hB, G, G2, R, hsz⟩ := hb _ rfl
    generalize (((w.alloc (.cells #[.bool s, .slice a m cap, .int .i64 E] 24)).alloc (.cells #[.bool s', .slice a' m' cap', .int .i64 E'] 24)).alloc (.cells #[.bool false, .slice none 0 0, .int .i64 0] 24)) = W0 at hB G G2 R hsz ⊢
    clear hb
    have c0 := G.cell (i := 0) rfl
    have c1 := G.cell (i := 1) rfl
    have c2 := G.cell (i := 2) rfl
    have c3 := G2.cell (i := 0) rfl
    have c4 := G2.cell (i := 1) rfl
    have c5 := G2.cell (i := 2) rfl
    go_wp2_with fail
    obtain ⟨b1, S, z1⟩ := hbs W0 _ rfl
    generalize (W0.alloc (.cells #[.bool s, .slice a m cap, .int .i64 E, .bool s', .slice a' m' cap', .int .i64 E'] 24)) = W1 at b1 S z1 ⊢
    rw [hsz] at S z1
    refine (checkAll_two_no _ _ _ _ _ _ _ _ _ _ _ _ S HM.out).mono ?_
    rintro e w2 ⟨rfl, b2⟩
    have G := (G.behind b1).behind b2
    have G2 := (G2.behind b1).behind b2
    have R := (R.behind b1).behind b2
    have B2 := below_both (below_both hB b1) b2
    have hA := hA.behind B2
    have hA' := hA'.behind B2
    have hT := hT.behind B2
    have z2 := b2.size
    clear c0 c1 c2 c3 c4 c5 S
    have r0 := R.cell (i := 0) rfl
    have r1 := R.cell (i := 1) rfl
    have r2 := R.cell (i := 2) rfl
    have f0 := R.f 0
    have f1 := R.f 1
    have f2 := R.f 2
    clear hbs G G2
    go_wp2
    exact bodyPost_ret (v := .tuple #[.agg #[.bool false, .slice none 0 0, .int .i64 0], .int .i64 9]) (by simp [results, Tryd.results10, go_sem, r0, r1, r2]) rfl
      (dnil B2 (by omega) (by omega) rfl rfl)
end Go.Proofs.YthipbonhkcjcfaaDoor

/- dyadic's Add and Sub: sums and differences of two numbers. -/
namespace Go.Proofs.YthipbonhkcjcfaaDoor
open Go.RowKit Go.Shelf
attribute [local go_sem ↓] Go.wp_at_zero Go.wp_at_succ

set_option maxRecDepth 100000 in
set_option maxHeartbeats 2000000 in
theorem dadd {s s' : Bool} {a a' : Option Addr} {m cap m' cap' M M' i : Nat} {E E' : Int} {w : World} (hA : Num w (.slice a m cap) M i) (hA' : Num w (.slice a' m' cap') M' i) (hT : TabOk w) :
    Calls Tryd.prog 8 #[.agg #[.bool s, .slice a m cap, .int .i64 E], .agg #[.bool s', .slice a' m' cap', .int .i64 E']] w (DP w (resD (mayB m E && mayB m' E') (sumD s M E s' M' E')) (resE (mayB m E && mayB m' E') (sumD s M E s' M' E'))) := by
  have hb := dbox3 w #[.bool s, .slice a m cap, .int .i64 E] #[.bool s', .slice a' m' cap', .int .i64 E'] #[.bool false, .slice none 0 0, .int .i64 0] 24 24 24
  have hbs := fun W => dbox1 W #[.bool s, .slice a m cap, .int .i64 E, .bool s', .slice a' m' cap', .int .i64 E'] 24
  by_cases hm : (mayB m E && mayB m' E') = true
  · have hr : resD (mayB m E && mayB m' E') (sumD s M E s' M' E') = outD (sumD s M E s' M' E') ∧ resE (mayB m E && mayB m' E') (sumD s M E s' M' E') = outE (sumD s M E s' M' E') := by rw [hm]; exact ⟨rfl, rfl⟩
    rw [hr.1, hr.2]
    have hm' := hm
    rw [Bool.and_eq_true, mayB_iff, mayB_iff] at hm'
    obtain ⟨⟨e1, e2, e3⟩, e4, e5, e6⟩ := hm'
    have hA := num_may hA e3
    have hA' := num_may hA' e6
    have HM := Lib.hid hm
    clear hm hr
    go_enter Tryd.func8, Tryd.ntmps8
    go_wp2_with fail
    obtain ⟨hB, G, G2, R, hsz⟩ := hb _ rfl
    generalize (((w.alloc (.cells #[.bool s, .slice a m cap, .int .i64 E] 24)).alloc (.cells #[.bool s', .slice a' m' cap', .int .i64 E'] 24)).alloc (.cells #[.bool false, .slice none 0 0, .int .i64 0] 24)) = W0 at hB G G2 R hsz ⊢
    clear hb
    have c0 := G.cell (i := 0) rfl
    have c1 := G.cell (i := 1) rfl
    have c2 := G.cell (i := 2) rfl
    have c3 := G2.cell (i := 0) rfl
    have c4 := G2.cell (i := 1) rfl
    have c5 := G2.cell (i := 2) rfl
    go_wp2_with fail
    obtain ⟨b1, S, z1⟩ := hbs W0 _ rfl
    generalize (W0.alloc (.cells #[.bool s, .slice a m cap, .int .i64 E, .bool s', .slice a' m' cap', .int .i64 E'] 24)) = W1 at b1 S z1 ⊢
    rw [hsz] at S z1
    refine (checkAll_two_ok _ _ _ _ _ _ _ _ _ _ _ _ S HM.out).mono ?_
    rintro e w2 ⟨rfl, b2⟩
    have G := (G.behind b1).behind b2
    have G2 := (G2.behind b1).behind b2
    have R := (R.behind b1).behind b2
    have B2 := below_both (below_both hB b1) b2
    have hA := hA.behind B2
    have hA' := hA'.behind B2
    have hT := hT.behind B2
    have z2 := b2.size
    clear c0 c1 c2 c3 c4 c5 S
    have c0 := G.cell (i := 0) rfl
    have c1 := G.cell (i := 1) rfl
    have c2 := G.cell (i := 2) rfl
    have c3 := G2.cell (i := 0) rfl
    have c4 := G2.cell (i := 1) rfl
    have c5 := G2.cell (i := 2) rfl
    go_wp2_with fail
    obtain ⟨b3, S, z3⟩ := hbs w2 _ rfl
    generalize (w2.alloc (.cells #[.bool s, .slice a m cap, .int .i64 E, .bool s', .slice a' m' cap', .int .i64 E'] 24)) = W3 at b3 S z3 ⊢
    have hA := hA.behind b3
    have hA' := hA'.behind b3
    have hT := hT.behind b3
    have R := R.behind b3
    have B3 := below_both B2 b3
    refine (level_two S hA hA' e1 e2 e4 e5).mono ?_
    rintro e w4 ⟨U, a1, l1, k1, a2, l2, k2, rfl, GU, zA, zB, b4⟩
    have hT := hT.behind b4
    have R := R.behind b4
    have B4 := below_both B3 b4
    clear S c0 c1 c2 c3 c4 c5 G G2 hbs hA hA'
    have hx : -16384 ≤ min E E' ∧ min E E' ≤ 16384 := by omega
    have hU : U < w4.heap.size := GU.lt
    have hR4 : w.heap.size + 2 < w4.heap.size := R.lt
    have hT4 : 0 < w4.heap.size := hT.lt
    have z45 : w4.drew.heap.size = w4.heap.size := rfl
    obtain ⟨hx1, hx2⟩ := hx
    have hres : Hid (sumD s M E s' M' E' = tld (decide (lev s M E (min E E') + lev s' M' E' (min E E') < 0)) (lev s M E (min E E') + lev s' M' E' (min E E')).natAbs (min E E')) := Lib.hid rfl
    generalize min E E' = x at hx1 hx2 zA zB hres ⊢
    go_wp2_with fail
    have bd := (Below.refl (w4).heap.size (w4)).drew
    have zA := zA.behind bd
    have zB := zB.behind bd
    have GU := GU.behind bd
    have hT := hT.behind bd
    have R := R.behind bd
    have B5 := below_both B4 bd
    have hsz5 := R.lt
    clear bd
    have c0 := GU.cell (i := 0) rfl
    have c1 := GU.cell (i := 1) rfl
    have c2 := GU.cell (i := 2) rfl
    have c3 := GU.cell (i := 3) rfl
    have n0 := World.new_ne _ _ c0
    have bz := Below.refl w4.drew.heap.size w4.drew
    go_region_held3 (fun w' => w'.cell? ⟨U, 0, none⟩ = some (.bool s) ∧ w'.cell? ⟨U, 1, none⟩ = some (.slice a1 l1 k1) ∧ w'.cell? ⟨U, 2, none⟩ = some (.bool s') ∧ w'.cell? ⟨U, 3, none⟩ = some (.slice a2 l2 k2)) (first | exact ⟨GU.cell rfl, GU.cell rfl, GU.cell rfl, GU.cell rfl⟩ | exact ⟨(GU.behind (bel_alloc _ _)).cell rfl, (GU.behind (bel_alloc _ _)).cell rfl, (GU.behind (bel_alloc _ _)).cell rfl, (GU.behind (bel_alloc _ _)).cell rfl⟩ | exact ⟨(GU.behind (bel_ad _ _)).cell rfl, (GU.behind (bel_ad _ _)).cell rfl, (GU.behind (bel_ad _ _)).cell rfl, (GU.behind (bel_ad _ _)).cell rfl⟩ | exact ⟨((GU.put (by simp <;> omega) _).put (by simp <;> omega) _).cell rfl, ((GU.put (by simp <;> omega) _).put (by simp <;> omega) _).cell rfl, ((GU.put (by simp <;> omega) _).put (by simp <;> omega) _).cell rfl, ((GU.put (by simp <;> omega) _).put (by simp <;> omega) _).cell rfl⟩ | exact ⟨(((GU.behind (bel_alloc _ _)).put (by simp <;> omega) _).put (by simp <;> omega) _).cell rfl, (((GU.behind (bel_alloc _ _)).put (by simp <;> omega) _).put (by simp <;> omega) _).cell rfl, (((GU.behind (bel_alloc _ _)).put (by simp <;> omega) _).put (by simp <;> omega) _).cell rfl, (((GU.behind (bel_alloc _ _)).put (by simp <;> omega) _).put (by simp <;> omega) _).cell rfl⟩ | (refine ⟨?_, ?_, ?_, ?_⟩ <;> go_keep))
      (first
        | (go_at_call 29; (first | (with_reducible refine (zadd zA zB (by omega) (by omega)).mono ?_) | (with_reducible refine (zadd (zA.behind (bel_ad _ _)) (zB.behind (bel_ad _ _)) (by omega) (by omega)).mono ?_)); rintro e w6 ⟨zs, za, zm, zc, rfl, zv, zn, b6⟩; have B6 : Below w4.drew.heap.size w4.drew w6 := (by first | exact below_both bz b6 | exact below_both (bel_ad _ _) b6); have z6 := B6.size; have GU := (by first | exact GU.behind b6 | exact (GU.behind (bel_alloc _ _)).behind b6 | exact (GU.behind (bel_ad _ _)).behind b6); have hT := (by first | exact hT.behind b6 | exact (hT.behind (bel_alloc _ _)).behind b6 | exact (hT.behind (bel_ad _ _)).behind b6); have R := (by first | exact R.behind b6 | exact (R.behind (bel_alloc _ _)).behind b6 | exact (R.behind (bel_ad _ _)).behind b6); (first | (have F := (Cs.new w4 #[.bool false, .slice none 0 0] 57).drew.behind b6; have F0 := F.cell (i := 0) rfl; have F1 := F.cell (i := 1) rfl; have F2 := F.f 0; have F3 := F.f 1) | skip); clear b6))
    all_goals
      have hlt := zv.lt
      obtain ⟨hzs, nz⟩ := zn.both
      first
      | (have F : Cs _ w4.heap.size #[.bool zs, .slice za zm zc] 57 := (F.set 0 (.bool zs)).set 1 (.slice za zm zc)
         have BN := ((below_both B5 B6).setCell (p := ⟨w4.heap.size, 0, none⟩) (by show _ ≤ w4.heap.size; omega) (.bool zs)).setCell (p := ⟨w4.heap.size, 1, none⟩) (by show _ ≤ w4.heap.size; omega) (.slice za zm zc)
         have R := (R.put (p := ⟨w4.heap.size, 0, none⟩) (by show _ ≠ w4.heap.size; omega) (.bool zs)).put (p := ⟨w4.heap.size, 1, none⟩) (by show _ ≠ w4.heap.size; omega) (.slice za zm zc)
         have nz := ((nz.put (p := ⟨w4.heap.size, 0, none⟩) (by show w4.heap.size < _; simp [World.size_alloc, World.drew]) (.bool zs)).put (p := ⟨w4.heap.size, 1, none⟩) (by show w4.heap.size < _; simp [World.size_alloc, World.drew]) (.slice za zm zc)).num hlt
         have hT := (hT.kept (Below.heap_setCell _ ⟨w4.heap.size, 0, none⟩ (.bool zs) _ (by show _ ≠ w4.heap.size; omega))).kept (Below.heap_setCell _ ⟨w4.heap.size, 1, none⟩ (.slice za zm zc) _ (by show _ ≠ w4.heap.size; omega))
         generalize ((w6.setCell ⟨w4.heap.size, 0, none⟩ (.bool zs)).setCell ⟨w4.heap.size, 1, none⟩ (.slice za zm zc)) = Wn at F BN R nz hT ⊢
         generalize w4.heap.size = g at F ⊢)
      | (have F := Cs.new w6 #[.bool zs, .slice za zm zc] 57
         have bn := bel_alloc w6 (.cells #[.bool zs, .slice za zm zc] 57)
         have BN := below_both (below_both B5 B6) bn
         have R := R.behind bn
         have nz := (nz.behind bn).num hlt
         have hT := hT.behind bn
         generalize (w6.alloc (.cells #[.bool zs, .slice za zm zc] 57)) = Wn at F BN R nz hT ⊢
         generalize w6.heap.size = g at F ⊢)
      clear B6 B5 bz GU c0 c1 c2 c3 n0 zv zn zA zB
      have c0 := F.cell (i := 0) rfl
      have c1 := F.cell (i := 1) rfl
      have hRn := R.lt
      go_wp2_with fail
      refine (dtold nz (by omega) hT (by omega) (by omega)).mono ?_
      rintro e w7 ⟨ta, tm, tc, ts, tn, tx, tq, rfl, nt, b7, hR, hQ⟩
      have R := R.behind b7
      have B7 := below_both BN b7
      have HR := Lib.hid hR
      have HQ := Lib.hid hQ
      have HZ := Lib.hid hzs
      clear hR hQ c0 c1 F hzs
      have r0 := R.cell (i := 0) rfl
      have r1 := R.cell (i := 1) rfl
      have r2 := R.cell (i := 2) rfl
      have f0 := R.f 0
      have f1 := R.f 1
      have f2 := R.f 2
      go_wp2
      exact bodyPost_ret (v := .tuple #[.agg #[.bool ts, .slice ta tm tc, .int .i64 tx], .int .i64 tq]) (by simp [results, Tryd.results8, go_sem, r0, r1, r2]) rfl
        (dend (r := w.heap.size + 1 + 1) B7 (by omega) (by omega) nt (by rw [hres.out]; exact HR.out) (by rw [hres.out]; exact HQ.out))
  · have hm : (mayB m E && mayB m' E') = false := by simpa using hm
    have hr : resD (mayB m E && mayB m' E') (sumD s M E s' M' E') = ⟨false, 0, 0⟩ ∧ resE (mayB m E && mayB m' E') (sumD s M E s' M' E') = 9 := by rw [hm]; exact ⟨rfl, rfl⟩
    rw [hr.1, hr.2]
    have HM := Lib.hid hm
    clear hm hr
    go_enter Tryd.func8, Tryd.ntmps8
    go_wp2_with fail
    obtain ⟨hB, G, G2, R, hsz⟩ := hb _ rfl
    generalize (((w.alloc (.cells #[.bool s, .slice a m cap, .int .i64 E] 24)).alloc (.cells #[.bool s', .slice a' m' cap', .int .i64 E'] 24)).alloc (.cells #[.bool false, .slice none 0 0, .int .i64 0] 24)) = W0 at hB G G2 R hsz ⊢
    clear hb
    have c0 := G.cell (i := 0) rfl
    have c1 := G.cell (i := 1) rfl
    have c2 := G.cell (i := 2) rfl
    have c3 := G2.cell (i := 0) rfl
    have c4 := G2.cell (i := 1) rfl
    have c5 := G2.cell (i := 2) rfl
    go_wp2_with fail
    obtain ⟨b1, S, z1⟩ := hbs W0 _ rfl
    generalize (W0.alloc (.cells #[.bool s, .slice a m cap, .int .i64 E, .bool s', .slice a' m' cap', .int .i64 E'] 24)) = W1 at b1 S z1 ⊢
    rw [hsz] at S z1
    refine (checkAll_two_no _ _ _ _ _ _ _ _ _ _ _ _ S HM.out).mono ?_
    rintro e w2 ⟨rfl, b2⟩
    have G := (G.behind b1).behind b2
    have G2 := (G2.behind b1).behind b2
    have R := (R.behind b1).behind b2
    have B2 := below_both (below_both hB b1) b2
    have hA := hA.behind B2
    have hA' := hA'.behind B2
    have hT := hT.behind B2
    have z2 := b2.size
    clear c0 c1 c2 c3 c4 c5 S
    have r0 := R.cell (i := 0) rfl
    have r1 := R.cell (i := 1) rfl
    have r2 := R.cell (i := 2) rfl
    have f0 := R.f 0
    have f1 := R.f 1
    have f2 := R.f 2
    clear hbs G G2
    go_wp2
    exact bodyPost_ret (v := .tuple #[.agg #[.bool false, .slice none 0 0, .int .i64 0], .int .i64 9]) (by simp [results, Tryd.results8, go_sem, r0, r1, r2]) rfl
      (dnil B2 (by omega) (by omega) rfl rfl)
set_option maxRecDepth 100000 in
set_option maxHeartbeats 2000000 in
theorem dsub {s s' : Bool} {a a' : Option Addr} {m cap m' cap' M M' i : Nat} {E E' : Int} {w : World} (hA : Num w (.slice a m cap) M i) (hA' : Num w (.slice a' m' cap') M' i) (hT : TabOk w) :
    Calls Tryd.prog 9 #[.agg #[.bool s, .slice a m cap, .int .i64 E], .agg #[.bool s', .slice a' m' cap', .int .i64 E']] w (DP w (resD (mayB m E && mayB m' E') (sumD s M E (!s') M' E')) (resE (mayB m E && mayB m' E') (sumD s M E (!s') M' E'))) := by
  have hb := dbox3 w #[.bool s, .slice a m cap, .int .i64 E] #[.bool s', .slice a' m' cap', .int .i64 E'] #[.bool false, .slice none 0 0, .int .i64 0] 24 24 24
  go_enter Tryd.func9, Tryd.ntmps9
  go_wp2_with fail
  obtain ⟨hB, G, G2, R, hsz⟩ := hb _ rfl
  generalize (((w.alloc (.cells #[.bool s, .slice a m cap, .int .i64 E] 24)).alloc (.cells #[.bool s', .slice a' m' cap', .int .i64 E'] 24)).alloc (.cells #[.bool false, .slice none 0 0, .int .i64 0] 24)) = W0 at hB G G2 R hsz ⊢
  clear hb
  have c0 := G.cell (i := 0) rfl
  have c1 := G.cell (i := 1) rfl
  have c2 := G.cell (i := 2) rfl
  have c3 := G2.cell (i := 0) rfl
  have c4 := G2.cell (i := 1) rfl
  have c5 := G2.cell (i := 2) rfl
  have hA := hA.behind hB
  have hA' := hA'.behind hB
  have hT := hT.behind hB
  go_wp2_with fail
  refine (dadd hA hA' hT).mono ?_
  rintro e w7 ⟨ta, tm, tc, ts, tn, tx, tq, rfl, nt, b7, hR, hQ⟩
  have R := R.behind b7
  have B7 := below_both hB b7
  have HR := Lib.hid hR
  have HQ := Lib.hid hQ
  clear hR hQ c0 c1 c2 c3 c4 c5 G G2
  have r0 := R.cell (i := 0) rfl
  have r1 := R.cell (i := 1) rfl
  have r2 := R.cell (i := 2) rfl
  have f0 := R.f 0
  have f1 := R.f 1
  have f2 := R.f 2
  go_wp2
  exact bodyPost_ret (v := .tuple #[.agg #[.bool ts, .slice ta tm tc, .int .i64 tx], .int .i64 tq]) (by simp [results, Tryd.results9, go_sem, r0, r1, r2]) rfl
    (dend (r := w.heap.size + 1 + 1) B7 (by omega) (by omega) nt HR.out HQ.out)
end Go.Proofs.YthipbonhkcjcfaaDoor
