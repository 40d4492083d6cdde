/- perm: Odd. -/
import Derived.Test.YtgppbimbampenaaPeThen
import Derived.Laws.CopyOwn
import Derived.BigRegion
namespace Go.Proofs.Ytgppbimbampenaa
open Go.RowKit Go.Shelf
/-- block g is an array of these ints -/
def Ar (W : World) (g : Nat) (L : List Int) (t : TypeId) : Prop := W.heap[g]? = some (.cells (valsK .i64 L).toArray t (0, 0))
section
variable {W W' : World} {g : Nat} {L : List Int} {t : TypeId}
theorem Ar.cell (h : Ar W g L t) {j : Nat} (hj : j < L.length) : W.cell? ⟨g, j, none⟩ = some (.int .i64 (zat L j)) := by
  rw [cell_of_row W g j _ _ (0, 0) h, List.getElem?_toArray, valsK_get hj]
theorem Ar.f (h : Ar W g L t) (j : Nat) : W.frozen? ⟨g, j, none⟩ = false := by simp [World.frozen?, show W.heap[g]? = _ from h]
theorem Ar.drew (h : Ar W g L t) : Ar W.drew g L t := h
theorem Ar.set (h : Ar W g L t) (j : Nat) (z : Int) : Ar (W.setCell ⟨g, j, none⟩ (.int .i64 z)) g (L.set j z) t := by
  unfold Ar at h ⊢
  simp [World.setCell, Array.getElem?_modify, h, valsK, List.map_set]
end
def tail64 (n : Nat) : List Int := List.replicate (64 - n) 0
theorem zat_tail {xs : List Int} {n k : Nat} (h : k < xs.length) : zat (xs ++ tail64 n) k = zat xs k := by
  unfold zat; rw [List.getElem?_append_left h]
theorem len_tail {xs : List Int} {n : Nat} (h : xs.length = n) (hn : n ≤ 64) : (xs ++ tail64 n).length = 64 := by
  rw [List.length_append, tail64, List.length_replicate]; omega
theorem swp_tail {xs : List Int} {n i j : Nat} (hi : i < xs.length) (hj : j < xs.length) : ((xs ++ tail64 n).set i (zat xs j)).set j (zat xs i) = swpZ xs i j ++ tail64 n := by
  unfold swpZ
  rw [List.set_append_left _ _ hi, List.set_append_left _ _ (by rw [List.length_set]; exact hj)]
theorem splice_tail {zs : List Int} (h : zs.length ≤ 64) : splice (valsK .i64 (List.replicate 64 0)) 0 (valsK .i64 zs) = valsK .i64 (zs ++ tail64 zs.length) := by
  unfold splice tail64
  rw [List.take_zero, List.nil_append, Nat.zero_add, valsK_length]
  unfold valsK
  rw [List.map_append, ← List.map_drop, List.drop_replicate]
theorem filt_lt {p q : Nat → Bool} {l : List Nat} (hpq : ∀ k, q k = true → p k = true) (h : ∃ k, k ∈ l ∧ p k = true ∧ q k = false) : (l.filter q).length < (l.filter p).length := by
  have hle : ∀ l : List Nat, (l.filter q).length ≤ (l.filter p).length := by
    intro l
    induction l with
    | nil => exact Nat.le_refl _
    | cons a l ih =>
      rw [List.filter_cons, List.filter_cons]
      cases hq : q a
      · cases p a <;> simp <;> omega
      · rw [hpq a hq]; simp; omega
  induction l with
  | nil => obtain ⟨k, hk, _⟩ := h; cases hk
  | cons a l ih =>
    obtain ⟨k, hk, h1, h2⟩ := h
    rw [List.filter_cons, List.filter_cons]
    by_cases e : k = a
    · subst e
      rw [h1, h2]
      have := hle l
      simp; omega
    · have hk2 : k ∈ l := by
        rcases List.mem_cons.1 hk with q | q
        · exact absurd q e
        · exact q
      have hi := ih ⟨k, hk2, h1, h2⟩
      cases hq : q a
      · cases p a <;> simp <;> omega
      · rw [hpq a hq]; simp; omega
open Classical in
/-- how many places do not hold their own number -/
noncomputable def offC (W : World) (g n : Nat) : Nat := ((List.range n).filter fun k => decide (W.cell? ⟨g, k, none⟩ ≠ some (.int .i64 (k : Int)))).length
def offL (xs : List Int) (n : Nat) : Nat := ((List.range n).filter fun k => zat xs k != (k : Int)).length
open Classical in
theorem offC_is {W : World} {g n : Nat} {xs : List Int} {t : TypeId} (h : Ar W g (xs ++ tail64 n) t) (hx : xs.length = n) : offC W g n = offL xs n := by
  unfold offC offL
  congr 1
  apply List.filter_congr
  intro k hk
  have hk := List.mem_range.1 hk
  have hc := h.cell (j := k) (by rw [List.length_append]; omega)
  rw [zat_tail (by omega)] at hc
  by_cases e : zat xs k = (k : Int)
  · rw [decide_eq_false (by rw [hc, e]; simp), e]; simp
  · rw [decide_eq_true (by rw [hc]; intro q; simp only [Option.some.injEq, Value.int.injEq] at q; exact e q.2)]
    exact (bne_iff_ne.2 e).symm
theorem zeros64 : (#[.int .i64 0, .int .i64 0, .int .i64 0, .int .i64 0, .int .i64 0, .int .i64 0, .int .i64 0, .int .i64 0, .int .i64 0, .int .i64 0, .int .i64 0, .int .i64 0, .int .i64 0, .int .i64 0, .int .i64 0, .int .i64 0, .int .i64 0, .int .i64 0, .int .i64 0, .int .i64 0, .int .i64 0, .int .i64 0, .int .i64 0, .int .i64 0, .int .i64 0, .int .i64 0, .int .i64 0, .int .i64 0, .int .i64 0, .int .i64 0, .int .i64 0, .int .i64 0, .int .i64 0, .int .i64 0, .int .i64 0, .int .i64 0, .int .i64 0, .int .i64 0, .int .i64 0, .int .i64 0, .int .i64 0, .int .i64 0, .int .i64 0, .int .i64 0, .int .i64 0, .int .i64 0, .int .i64 0, .int .i64 0, .int .i64 0, .int .i64 0, .int .i64 0, .int .i64 0, .int .i64 0, .int .i64 0, .int .i64 0, .int .i64 0, .int .i64 0, .int .i64 0, .int .i64 0, .int .i64 0, .int .i64 0, .int .i64 0, .int .i64 0, .int .i64 0] : Array Value) = (valsK .i64 (List.replicate 64 0)).toArray := rfl
theorem offL_less {xs : List Int} {n i r : Nat} (hx : xs.length = n) (hp : permB xs = true) (hi : i < n) (hr : zat xs i = (r : Int)) (hir : i ≠ r) (hrn : r < n) : offL (swpZ xs i r) n < offL xs n := by
  have hg := (permB_iff.1 hp).2
  have hrr : zat xs r ≠ (r : Int) := fun e => hir (good_inj hg (by omega) (by omega) (hr.trans e.symm))
  refine filt_lt ?_ ⟨r, List.mem_range.2 hrn, bne_iff_ne.2 hrr, ?_⟩
  · intro k hk
    rw [bne_iff_ne] at hk ⊢
    rw [swpZ_at (by omega) (by omega)] at hk
    by_cases e1 : k = r
    · rw [e1]; exact hrr
    · rw [if_neg e1] at hk
      by_cases e2 : k = i
      · rw [e2, hr]; omega
      · rw [if_neg e2] at hk; exact hk
  · rw [swpZ_at (by omega) (by omega), if_pos rfl, hr]; simp
theorem all_home {xs : List Int} {n : Nat} (hx : xs.length = n) (h : ∀ j, j < n → zat xs j = (j : Int)) : sgZ xs = false := by
  have : xs = idZ n := zat_ext (by rw [hx, idZ_length]) fun i hi => by rw [h i (by omega), idZ_at (by omega)]
  rw [this, sgZ_id]
def oddP (zs : List Int) : Bool := permB zs && sgZ zs
set_option maxRecDepth 100000 in
set_option maxHeartbeats 8000000 in
theorem perm_odd {v : Value} {zs : List Int} {w : World} (hA : ArgK .i64 w v zs) : Calls Try.prog 26 #[v] w fun e W' => e = .returned (.bool (oddP zs)) ∧ Below w.heap.size w W' := by
  have hc := perm_check hA
  obtain ⟨S, a, cap, hS, rfl, hcap, HA⟩ := hA.opened
  unfold oddP chkP at *
  cases hp : permB zs
  · rw [hp] at hc
    simp only [Bool.false_eq_true, if_false, Bool.false_and] at hc ⊢
    clear hA hcap hp
    generalize zs.length = n at *
    go_enter Try.func26, Try.ntmps26
    go_wp2_with fail
    refine hc.mono ?_
    rintro e w1 ⟨rfl, b1⟩
    clear hc
    go_wp2
    go_ret
    exact ⟨rfl, b1⟩
  · rw [hp] at hc
    simp only [if_true, Bool.true_and] at hc ⊢
    obtain ⟨p1, p2⟩ := permB_iff.1 hp
    have hvl := valsK_length .i64 zs
    have hsp := Lib.hid (splice_tail p1)
    have HP := Lib.hid hp
    have HN64 := Lib.hid p1
    have hn : zs.length ≤ 64 := p1
    have HK : Hid (∀ W, Below w.heap.size w W → 0 < zs.length → ∃ ad, a = some ad ∧ ∀ j v, (valsK .i64 zs)[j]? = some v → W.cell? (ad.add j) = some v) := Lib.hid (fun W hB h0 => by
      obtain ⟨off, rfl, _⟩ := HA.out W hB 0 h0
      refine ⟨_, rfl, fun j v hv => ?_⟩
      have hj : j < zs.length := by
        rcases Nat.lt_or_ge j zs.length with h | h
        · exact h
        · rw [List.getElem?_eq_none (by rw [valsK_length]; exact h)] at hv; cases hv
      obtain ⟨off2, e2, hc2⟩ := HA.out W hB j hj
      simp only [Option.some.injEq, Addr.mk.injEq] at e2
      obtain ⟨_, rfl, _⟩ := e2
      rw [valsK_get hj] at hv
      have ha : (⟨S, off, none⟩ : Addr).add j = ⟨S, off + j, none⟩ := by unfold Addr.add; split <;> simp_all
      rw [ha, hc2]; exact hv)
    have hone : Hid (∀ u ∈ valsK .i64 zs, u.oneCell' = true) := Lib.hid (by intro u hu; obtain ⟨x, _, rfl⟩ := List.mem_map.1 hu; rfl)
    clear hA hcap hp p1 p2
    go_enter Try.func26, Try.ntmps26
    go_wp2_with fail
    refine hc.mono ?_
    rintro e w1 ⟨rfl, b1⟩
    clear hc
    have hb0 : Below w.heap.size w (w1.alloc (.cells #[.int .i64 0, .int .i64 0, .int .i64 0, .int .i64 0, .int .i64 0, .int .i64 0, .int .i64 0, .int .i64 0, .int .i64 0, .int .i64 0, .int .i64 0, .int .i64 0, .int .i64 0, .int .i64 0, .int .i64 0, .int .i64 0, .int .i64 0, .int .i64 0, .int .i64 0, .int .i64 0, .int .i64 0, .int .i64 0, .int .i64 0, .int .i64 0, .int .i64 0, .int .i64 0, .int .i64 0, .int .i64 0, .int .i64 0, .int .i64 0, .int .i64 0, .int .i64 0, .int .i64 0, .int .i64 0, .int .i64 0, .int .i64 0, .int .i64 0, .int .i64 0, .int .i64 0, .int .i64 0, .int .i64 0, .int .i64 0, .int .i64 0, .int .i64 0, .int .i64 0, .int .i64 0, .int .i64 0, .int .i64 0, .int .i64 0, .int .i64 0, .int .i64 0, .int .i64 0, .int .i64 0, .int .i64 0, .int .i64 0, .int .i64 0, .int .i64 0, .int .i64 0, .int .i64 0, .int .i64 0, .int .i64 0, .int .i64 0, .int .i64 0, .int .i64 0] 95)) := b1.alloc b1.size _
    have hg0 : (w1.alloc (.cells #[.int .i64 0, .int .i64 0, .int .i64 0, .int .i64 0, .int .i64 0, .int .i64 0, .int .i64 0, .int .i64 0, .int .i64 0, .int .i64 0, .int .i64 0, .int .i64 0, .int .i64 0, .int .i64 0, .int .i64 0, .int .i64 0, .int .i64 0, .int .i64 0, .int .i64 0, .int .i64 0, .int .i64 0, .int .i64 0, .int .i64 0, .int .i64 0, .int .i64 0, .int .i64 0, .int .i64 0, .int .i64 0, .int .i64 0, .int .i64 0, .int .i64 0, .int .i64 0, .int .i64 0, .int .i64 0, .int .i64 0, .int .i64 0, .int .i64 0, .int .i64 0, .int .i64 0, .int .i64 0, .int .i64 0, .int .i64 0, .int .i64 0, .int .i64 0, .int .i64 0, .int .i64 0, .int .i64 0, .int .i64 0, .int .i64 0, .int .i64 0, .int .i64 0, .int .i64 0, .int .i64 0, .int .i64 0, .int .i64 0, .int .i64 0, .int .i64 0, .int .i64 0, .int .i64 0, .int .i64 0, .int .i64 0, .int .i64 0, .int .i64 0, .int .i64 0] 95)).heap[w1.heap.size]? = some (.cells (valsK .i64 (List.replicate 64 0)).toArray 95 (0, 0)) := by
      rw [zeros64]
      exact (mbox w1 _ 95 _ rfl).2
    have hgs := b1.size
    have HHK := Lib.hid (HK.out _ hb0)
    go_wp2_with (refine wpList_copy_splice rfl (.tmp 10) (.tmp 11) 25 25 rfl 3 (by kernel_rfl) (by kernel_rfl) (some ⟨w1.heap.size, 0, none⟩) a 64 64 zs.length cap rfl rfl w1.heap.size 0 (valsK .i64 (List.replicate 64 0)) 95 hg0 (valsK .i64 zs) (by rw [hvl]; exact (Nat.min_eq_left HN64.out).symm) (fun h => ⟨rfl, HHK.out (by rw [hvl] at h; exact h)⟩) (by rw [hvl, valsK_length, List.length_replicate]; have := HN64.out; omega) hone.out w.heap.size w hb0 hgs ?_; intro w4 hg4 hb4)
    have hAr : Ar w4 w1.heap.size (zs ++ tail64 zs.length) 95 := by
      have := hg4.out
      rw [hsp.out] at this
      exact this
    generalize w1.heap.size = g at *
    clear hg4 hg0 HHK HK hone hsp hb0 b1 hvl
    have hxl : zs.length = zs.length := rfl
    obtain ⟨n, hnz⟩ : ∃ n, n = zs.length := ⟨_, rfl⟩
    rw [← hnz] at hAr hn ⊢
    have HNZ := Lib.hid hnz
    have hn2 : (n : Int) ≤ 64 := by omega
    clear hnz hxl HN64
    go_loopw [4, 15] (fun o i wr => ∃ (k : Nat) (b : Bool) (xs : List Int), k ≤ n ∧ i = .int .i64 k ∧ o = .bool b ∧ Ar wr g (xs ++ tail64 n) 95 ∧ Hid (xs.length = n ∧ permB xs = true ∧ (∀ j, j < k → zat xs j = (j : Int)) ∧ (b != sgZ xs) = sgZ zs) ∧ Below w.heap.size w wr) (fun _ i _ => n - (intOf i).toNat)
    case atStart => exact ⟨0, false, zs, Nat.zero_le _, rfl, rfl, hAr, Lib.hid ⟨HNZ.out.symm, HP.out, fun j h => absurd h (Nat.not_lt_zero j), by cases sgZ zs <;> rfl⟩, hb4⟩
    case round =>
      obtain ⟨i, b, xs, hi, rfl, rfl, hX, HX, hB⟩ := hrel
      by_cases hlt : i < n
      · go_wp2
        go_loopw [4] (fun o wr => ∃ (b : Bool) (xs : List Int), o = .bool b ∧ Ar wr g (xs ++ tail64 n) 95 ∧ Hid (xs.length = n ∧ permB xs = true ∧ (∀ j, j < i → zat xs j = (j : Int)) ∧ (b != sgZ xs) = sgZ zs) ∧ Below w.heap.size w wr) (fun _ wr => offC wr g n)
        case atStart => exact ⟨b, xs, rfl, hX, HX, hB⟩
        case round =>
          obtain ⟨b, xs, rfl, hX, HX, hB⟩ := hrel
          obtain ⟨x1, x2, x3, x4⟩ := HX.out
          have hci := hX.cell (j := i) (by rw [len_tail x1 (by omega)]; omega)
          rw [zat_tail (by omega)] at hci
          have hpi := ((permB_iff.1 x2).2 i (by omega)).1
          obtain ⟨r, hr⟩ : ∃ r : Nat, zat xs i = (r : Int) := ⟨(zat xs i).toNat, by omega⟩
          have hrn : r < n := by omega
          have hcr := hX.cell (j := r) (by rw [len_tail x1 (by omega)]; omega)
          rw [zat_tail (by omega)] at hcr
          have hi64 : (i : Int) < 64 := by omega
          have hr64 : (r : Int) < 64 := by omega
          by_cases hir : i = r
          · have HR : Hid (∀ j, j < i + 1 → zat xs j = (j : Int)) := Lib.hid (fun j hj => by
              rcases Nat.lt_or_ge j i with e | e
              · exact x3 j e
              · obtain rfl : j = i := by omega
                rw [hr, hir])
            have HX2 := Lib.hid (And.intro x1 (And.intro x2 x4))
            rw [hr] at hci
            have d : ((r : Int) != (i : Int)) = false := by simp [hir]
            have d' : (r != i) = false := by simp [hir]
            clear x1 x2 x3 x4 hr hpi hcr HX
            subst hir
            go_wp2
            go_roundw
            case rel => exact ⟨i + 1, b, xs, by omega, by simp, rfl, hX, Lib.hid ⟨HX2.out.1, HX2.out.2.1, HR.out, HX2.out.2.2⟩, hB⟩
            case measure => simp [intOf]; omega
          · have hX1 := hX.set i (zat xs r)
            have f1 := hX.f i
            have f2 := hX1.f r
            have e2 := hX1.cell (j := r) (by rw [List.length_set, len_tail x1 (by omega)]; omega)
            have f3 := hX.f r
            have hX2 := hX1.set r (zat xs i)
            rw [swp_tail (by omega) (by omega)] at hX2
            have hg2 := (permB_iff.1 x2).2
            have HX2 : Hid ((swpZ xs i r).length = n ∧ permB (swpZ xs i r) = true ∧ (∀ j, j < i → zat (swpZ xs i r) j = (j : Int)) ∧ ((!b) != sgZ (swpZ xs i r)) = sgZ zs) := Lib.hid (by
              refine ⟨by rw [swpZ_length, x1], swpZ_perm (by omega) (by omega) x2, fun j hj => ?_, ?_⟩
              · rw [swpZ_at (by omega) (by omega)]
                have hjr : j ≠ r := fun e => by
                  have h3 := x3 j hj
                  have := good_inj hg2 (i := j) (j := i) (by omega) (by omega) (by rw [h3, hr, e])
                  omega
                rw [if_neg hjr, if_neg (by omega), x3 j hj]
              · rw [sgZ_swap (by omega) (by omega) hg2, decide_eq_true hir, ← x4]
                cases b <;> cases sgZ xs <;> rfl)
            have HM : Hid (offL (swpZ xs i r) n < offL xs n) := Lib.hid (offL_less x1 x2 (by omega) hr hir hrn)
            have HO := Lib.hid (offC_is hX x1)
            have HXL := Lib.hid x1
            rw [hr] at hci hX2
            have hB2 := (hB.setCell (p := ⟨g, i, none⟩) hgs (.int .i64 (zat xs r))).setCell (p := ⟨g, r, none⟩) hgs (.int .i64 (r : Int))
            have d : ((r : Int) != (i : Int)) = true := bne_iff_ne.2 (by omega)
            have d' : (r != i) = true := bne_iff_ne.2 (fun e => hir e.symm)
            have HIR := Lib.hid hir
            have HX3 := Lib.hid hX2
            have HB3 := Lib.hid hB2
            clear x1 x2 x3 x4 hr hpi hg2 hX hX1 hX2 hB2 HX
            generalize zat xs r = y at *
            go_wp2
            go_region
            go_wp2
            go_roundw
            case rel => exact ⟨!b, swpZ xs i r, rfl, HX3.out.drew, HX2, HB3.out.drew⟩
            case measure =>
              rw [offC_is (HX3.out.drew) HX2.out.1, HO.out]
              exact HM.out
      · obtain rfl : i = n := by omega
        obtain ⟨x1, x2, x3, x4⟩ := HX.out
        have hs := all_home x1 x3
        rw [hs] at x4
        have HE := Lib.hid x4
        clear x1 x2 x3 x4 HX
        go_wp2
        go_ret
        exact ⟨by rw [← HE.out]; cases b <;> rfl, hB⟩
end Go.Proofs.Ytgppbimbampenaa
