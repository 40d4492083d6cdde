/- Lists that a call has made and writes to: clones, stores. -/
import Derived.Test.YtgppbimbampenaaShSpec
namespace Go.Proofs.Ytgppbimbampenaa
open Go.RowKit Go.Shelf
theorem zn_vals (xs : List Nat) : valsK .u64 (zn xs) = xs.map fun (x : Nat) => Value.int .u64 (x : Int) := by
  unfold valsK zn
  rw [List.map_map]; rfl
theorem zn_set (xs : List Nat) (j v : Nat) : zn (xs.set j v) = (zn xs).set j (v : Int) := by
  unfold zn; rw [List.map_set]
section
variable {k : IntKind} {t : TypeId} {b : Nat} {W W' : World} {v : Value} {zs : List Int}
theorem OwnK.form (h : OwnK k t b W v zs) (h0 : 0 < zs.length) : ∃ g cap, v = .slice (some ⟨g, 0, none⟩) zs.length cap ∧ b ≤ g ∧ g < W.heap.size := by
  rcases h.2 with ⟨h1, h2⟩ | ⟨g, cap, cur, rfl, hb, hg, _⟩
  · omega
  · exact ⟨g, cap, rfl, hb, (Array.getElem?_eq_some_iff.1 hg).1⟩
theorem OwnK.cell {g n cap : Nat} (h : OwnK k t b W (.slice (some ⟨g, 0, none⟩) n cap) zs) {j : Nat} (hj : j < zs.length) : W.cell? ⟨g, j, none⟩ = some (Value.int k (zat zs j)) := by
  have hn : n = zs.length := by
    rcases h.2 with ⟨h1, _⟩ | ⟨g', cap', cur, e, _⟩
    · cases h1
    · simp only [Value.slice.injEq] at e; exact e.2.1
  subst hn
  have hl := valsK_length k zs
  rw [World.ownsRow.cellAt h j (by omega), valsK_get hj]
theorem OwnK.frozen {g n cap : Nat} (h : OwnK k t b W (.slice (some ⟨g, 0, none⟩) n cap) zs) (j : Nat) : W.frozen? ⟨g, j, none⟩ = false := by
  have hn : n = zs.length := by
    rcases h.2 with ⟨h1, _⟩ | ⟨g', cap', cur, e, _⟩
    · cases h1
    · simp only [Value.slice.injEq] at e; exact e.2.1
  subst hn
  exact World.ownsRow.frozenAt h j
theorem OwnK.set {g n cap : Nat} (h : OwnK k t b W (.slice (some ⟨g, 0, none⟩) n cap) zs) (j : Nat) (z : Int) : OwnK k t b (W.setCell ⟨g, j, none⟩ (.int k z)) (.slice (some ⟨g, 0, none⟩) n cap) (zs.set j z) := by
  have hn : n = zs.length := by
    rcases h.2 with ⟨h1, _⟩ | ⟨g', cap', cur, e, _⟩
    · cases h1
    · simp only [Value.slice.injEq] at e; exact e.2.1
  subst hn
  have h2 := (World.ownsRow.stored h j (.int k z)).1
  unfold OwnK
  rw [List.length_set]
  have e : valsK k (zs.set j z) = (valsK k zs).set j (.int k z) := by unfold valsK; rw [List.map_set]
  rw [e]
  exact h2
theorem OwnK.far (h : OwnK k t b W v zs) {p : Addr} (hp : p.block < b) (u : Value) : OwnK k t b (W.setCell p u) v zs := by
  unfold OwnK World.ownsRow at h ⊢
  refine ⟨h.1, h.2.imp id ?_⟩
  rintro ⟨g, cap, cur, h1, h2, h3, h4⟩
  exact ⟨g, cap, cur, h1, h2, (Below.heap_setCell W p u g (by omega)).trans h3, h4⟩
end
/-- the first k places renewed -/
def upd (f : Nat → Nat) (ys : List Nat) (k : Nat) : List Nat := (List.range ys.length).map fun i => if i < k then f i else lim ys i
theorem upd_length (f : Nat → Nat) (ys : List Nat) (k : Nat) : (upd f ys k).length = ys.length := by simp [upd]
theorem upd_at {f : Nat → Nat} {ys : List Nat} {k i : Nat} (h : i < ys.length) : lim (upd f ys k) i = if i < k then f i else lim ys i := by
  unfold upd
  show (((List.range ys.length).map fun i => if i < k then f i else lim ys i)[i]?).getD 0 = _
  rw [List.getElem?_map, List.getElem?_range h, Option.map_some, Option.getD_some]
theorem upd_zero (f : Nat → Nat) (ys : List Nat) : upd f ys 0 = ys := by
  refine ext_lim (upd_length _ _ _) fun i hi => ?_
  rw [upd_length] at hi
  rw [upd_at hi, if_neg (by omega)]
theorem upd_succ {f : Nat → Nat} {ys : List Nat} {k : Nat} : upd f ys (k + 1) = (upd f ys k).set k (f k) := by
  refine ext_lim (by rw [List.length_set, upd_length, upd_length]) fun i hi => ?_
  rw [upd_length] at hi
  rw [upd_at hi, lim_set, upd_length]
  by_cases h : i = k
  · rw [if_pos (show i < k + 1 by omega), if_pos ⟨h, by omega⟩, h]
  · rw [if_neg (show ¬ (i = k ∧ k < ys.length) from fun q => h q.1), upd_at hi]
    by_cases h2 : i < k
    · rw [if_pos (show i < k + 1 by omega), if_pos h2]
    · rw [if_neg (show ¬ i < k + 1 by omega), if_neg h2]
theorem upd_all (f : Nat → Nat) (ys : List Nat) : upd f ys ys.length = (List.range ys.length).map f := by
  unfold upd
  exact List.map_congr_left fun i hi => if_pos (List.mem_range.1 hi)
set_option maxHeartbeats 2000000 in
theorem clone_own (v : Value) (xs : List Nat) (hxl : xs.length ≤ 17592186044416) (w : World) (hA : Arg w v xs) :
    Calls Try.prog 70 #[v] w fun e w' => ∃ v', e = .returned v' ∧ OwnK .u64 57 w.heap.size w' v' (zn xs) ∧ Below w.heap.size w w' := by
  obtain ⟨b, hb, hI⟩ := hA
  have hz := zn_vals xs
  rcases hI with ⟨⟨a, cap, rfl⟩, rfl⟩ | ⟨off, cap, rfl, hl, hc⟩
  · cases a with
    | none =>
      have heq : ∀ u : World, (binOp .eql 39 (.slice none 0 cap) (.slice none 0 0)).run Try.prog u = .ok (.bool true) u := fun u => Lib.run_eql_slice_nil u 39 57 _ _ _ _ _ Try.underlying39
      go_enter Try.func70, Try.ntmps70
      go_wp2
      go_ret
      exact ⟨_, rfl, OwnK.nil _ _ _ _, Below.refl _ _⟩
    | some ad =>
      obtain ⟨i0, hi, hz0, hz1, hz2⟩ := info_parts info_u64
      have heq : ∀ u : World, (binOp .eql 39 (.slice (some ad) 0 cap) (.slice none 0 0)).run Try.prog u = .ok (.bool false) u := fun u => Lib.run_eql_slice_nil u 39 57 _ _ _ _ _ Try.underlying39
      have hown : Hid ((w.alloc (.cells #[] 57)).ownsRow w.heap.size 57 1 (.slice (some ⟨w.heap.size, 0, none⟩) 0 0) 0 []) := Lib.hid (World.ownsRow_lit w #[] 0 (Nat.le_refl _) (by simp [maxLen]) rfl)
      go_enter Try.func70, Try.ntmps70
      go_wp2_with (at_builtin; refine wpList_append_own _ rfl _ _ 39 rfl w.heap.size 57 i0 (.int .u64 0) 1 8 Try.underlying39 hi hz0 hz1 hz2 rfl (by decide) (.slice (some ⟨w.heap.size, 0, none⟩) 0 0) 0 [] rfl hown.out ad 0 cap [] rfl rfl (by intro j u hu; simp at hu) (by intro u hu; cases hu) (by simp [maxLen]) (by omega) (by simp) ?_; intro v' w1 hown' hgrow _)
      go_ret
      exact ⟨_, rfl, hown', ((Below.refl _ w).alloc (Nat.le_refl _) (.cells #[] 57)).grown hgrow (by simp) (fun k e => by simp [Value.ownBlock] at e; omega)⟩
  · obtain ⟨i0, hi, hz0, hz1, hz2⟩ := info_parts info_u64
    have heq : ∀ u : World, (binOp .eql 39 (.slice (some ⟨b, off, none⟩) xs.length cap) (.slice none 0 0)).run Try.prog u = .ok (.bool false) u := fun u => Lib.run_eql_slice_nil u 39 57 _ _ _ _ _ Try.underlying39
    have hown : Hid ((w.alloc (.cells #[] 57)).ownsRow w.heap.size 57 1 (.slice (some ⟨w.heap.size, 0, none⟩) 0 0) 0 []) := Lib.hid (World.ownsRow_lit w #[] 0 (Nat.le_refl _) (by simp [maxLen]) rfl)
    have hnews : Hid (∀ j u, (valsK .u64 (zn xs))[j]? = some u → (w.alloc (.cells #[] 57)).cell? ((⟨b, off, none⟩ : Addr).add j) = some u) := Lib.hid (by
      intro j u hu
      have hj : j < xs.length := by
        rcases Nat.lt_or_ge j xs.length with h | h
        · exact h
        · rw [List.getElem?_eq_none (by rw [valsK_length, zn_length]; exact h)] at hu; cases hu
      rw [valsK_get (by rw [zn_length]; exact hj), zn_at hj] at hu
      have ha : (⟨b, off, none⟩ : Addr).add j = ⟨b, off + j, none⟩ := by unfold Addr.add; split <;> simp_all
      rw [ha, World.cell?_alloc_lt w _ _ hb, hc j hj]
      exact hu)
    have hone : Hid (∀ u ∈ valsK .u64 (zn xs), u.oneCell' = true) := Lib.hid (by intro u hu; obtain ⟨x, _, rfl⟩ := List.mem_map.1 hu; rfl)
    have hlv : Hid ((valsK .u64 (zn xs)).length = xs.length * 1) := Lib.hid (by rw [valsK_length, zn_length, Nat.mul_one])
    clear hz hc
    go_enter Try.func70, Try.ntmps70
    go_wp2_with (at_builtin; refine wpList_append_own _ rfl _ _ 39 rfl w.heap.size 57 i0 (.int .u64 0) 1 8 Try.underlying39 hi hz0 hz1 hz2 rfl (by decide) (.slice (some ⟨w.heap.size, 0, none⟩) 0 0) 0 [] rfl hown.out ⟨b, off, none⟩ xs.length cap (valsK .u64 (zn xs)) rfl hlv.out hnews.out hone.out (by simp only [maxLen]; omega) (by omega) (by simp) ?_; intro v' w1 hown' hgrow _)
    go_ret
    refine ⟨_, rfl, ?_, ((Below.refl _ w).alloc (Nat.le_refl _) (.cells #[] 57)).grown hgrow (by simp) (fun k e => by simp [Value.ownBlock] at e; omega)⟩
    unfold OwnK
    rw [zn_length]
    simpa using hown'
end Go.Proofs.Ytgppbimbampenaa
