/- Lists that a call has made and writes to: clones, stores. -/
import Derived.Test.YtjapilpjahhimaaShSpec
import Derived.Laws.AppendOwnNone
namespace Go.Proofs.Ytjapilpjahhimaa
open Go.RowKit Go.Shelf
theorem zn_vals (xs : List Nat) : valsK .u64 (zn xs) = xs.map fun (x : Nat) => Value.int .u64 (x : Int) := by
  unfold valsK zn
  rw [List.map_map]; rfl
theorem zn_set (xs : List Nat) (j v : Nat) : zn (xs.set j v) = (zn xs).set j (v : Int) := by
  unfold zn; rw [List.map_set]
section
variable {k : IntKind} {t : TypeId} {b : Nat} {W W' : World} {v : Value} {zs : List Int}
theorem OwnK.form (h : OwnK k t b W v zs) (h0 : 0 < zs.length) : ∃ g cap, v = .slice (some ⟨g, 0, none⟩) zs.length cap ∧ b ≤ g ∧ g < W.heap.size := by
  rcases h.2 with ⟨h1, h2⟩ | ⟨g, cap, cur, rfl, hb, hg, _⟩
  · omega
  · exact ⟨g, cap, rfl, hb, (Array.getElem?_eq_some_iff.1 hg).1⟩
theorem OwnK.cell {g n cap : Nat} (h : OwnK k t b W (.slice (some ⟨g, 0, none⟩) n cap) zs) {j : Nat} (hj : j < zs.length) : W.cell? ⟨g, j, none⟩ = some (Value.int k (zat zs j)) := by
  have hn : n = zs.length := by
    rcases h.2 with ⟨h1, _⟩ | ⟨g', cap', cur, e, _⟩
    · cases h1
    · simp only [Value.slice.injEq] at e; exact e.2.1
  subst hn
  have hl := valsK_length k zs
  rw [World.ownsRow.cellAt h j (by omega), valsK_get hj]
theorem OwnK.frozen {g n cap : Nat} (h : OwnK k t b W (.slice (some ⟨g, 0, none⟩) n cap) zs) (j : Nat) : W.frozen? ⟨g, j, none⟩ = false := by
  have hn : n = zs.length := by
    rcases h.2 with ⟨h1, _⟩ | ⟨g', cap', cur, e, _⟩
    · cases h1
    · simp only [Value.slice.injEq] at e; exact e.2.1
  subst hn
  exact World.ownsRow.frozenAt h j
theorem OwnK.set {g n cap : Nat} (h : OwnK k t b W (.slice (some ⟨g, 0, none⟩) n cap) zs) (j : Nat) (z : Int) : OwnK k t b (W.setCell ⟨g, j, none⟩ (.int k z)) (.slice (some ⟨g, 0, none⟩) n cap) (zs.set j z) := by
  have hn : n = zs.length := by
    rcases h.2 with ⟨h1, _⟩ | ⟨g', cap', cur, e, _⟩
    · cases h1
    · simp only [Value.slice.injEq] at e; exact e.2.1
  subst hn
  have h2 := (World.ownsRow.stored h j (.int k z)).1
  unfold OwnK
  rw [List.length_set]
  have e : valsK k (zs.set j z) = (valsK k zs).set j (.int k z) := by unfold valsK; rw [List.map_set]
  rw [e]
  exact h2
theorem OwnK.far (h : OwnK k t b W v zs) {p : Addr} (hp : p.block < b) (u : Value) : OwnK k t b (W.setCell p u) v zs := by
  unfold OwnK World.ownsRow at h ⊢
  refine ⟨h.1, h.2.imp id ?_⟩
  rintro ⟨g, cap, cur, h1, h2, h3, h4⟩
  exact ⟨g, cap, cur, h1, h2, (Below.heap_setCell W p u g (by omega)).trans h3, h4⟩
end
/-- the first k places renewed -/
def upd (f : Nat → Nat) (ys : List Nat) (k : Nat) : List Nat := (List.range ys.length).map fun i => if i < k then f i else lim ys i
theorem upd_length (f : Nat → Nat) (ys : List Nat) (k : Nat) : (upd f ys k).length = ys.length := by simp [upd]
theorem upd_at {f : Nat → Nat} {ys : List Nat} {k i : Nat} (h : i < ys.length) : lim (upd f ys k) i = if i < k then f i else lim ys i := by
  unfold upd
  show (((List.range ys.length).map fun i => if i < k then f i else lim ys i)[i]?).getD 0 = _
  rw [List.getElem?_map, List.getElem?_range h, Option.map_some, Option.getD_some]
theorem upd_zero (f : Nat → Nat) (ys : List Nat) : upd f ys 0 = ys := by
  refine ext_lim (upd_length _ _ _) fun i hi => ?_
  rw [upd_length] at hi
  rw [upd_at hi, if_neg (by omega)]
theorem upd_succ {f : Nat → Nat} {ys : List Nat} {k : Nat} : upd f ys (k + 1) = (upd f ys k).set k (f k) := by
  refine ext_lim (by rw [List.length_set, upd_length, upd_length]) fun i hi => ?_
  rw [upd_length] at hi
  rw [upd_at hi, lim_set, upd_length]
  by_cases h : i = k
  · rw [if_pos (show i < k + 1 by omega), if_pos ⟨h, by omega⟩, h]
  · rw [if_neg (show ¬ (i = k ∧ k < ys.length) from fun q => h q.1), upd_at hi]
    by_cases h2 : i < k
    · rw [if_pos (show i < k + 1 by omega), if_pos h2]
    · rw [if_neg (show ¬ i < k + 1 by omega), if_neg h2]
theorem upd_all (f : Nat → Nat) (ys : List Nat) : upd f ys ys.length = (List.range ys.length).map f := by
  unfold upd
  exact List.map_congr_left fun i hi => if_pos (List.mem_range.1 hi)
set_option maxHeartbeats 2000000 in
theorem clone_own (v : Value) (xs : List Nat) (hxl : xs.length ≤ 17592186044416) (w : World) (hA : Arg w v xs) :
    Calls Try.prog 89 #[v] w fun e w' => ∃ v', e = .returned v' ∧ OwnK .u64 49 w.heap.size w' v' (zn xs) ∧ Below w.heap.size w w' := by
  obtain ⟨b, hb, hI⟩ := hA
  have hz := zn_vals xs
  rcases hI with ⟨⟨a, cap, rfl⟩, rfl⟩ | ⟨off, cap, rfl, hl, hc⟩
  · cases a with
    | none =>
      have heq : ∀ u : World, (binOp .eql 22 (.slice none 0 cap) (.slice none 0 0)).run Try.prog u = .ok (.bool true) u := fun u => Lib.run_eql_slice_nil u 22 49 _ _ _ _ _ Try.underlying22
      go_enter Try.func89, Try.ntmps89
      go_wp2
      go_ret
      exact ⟨_, rfl, OwnK.nil _ _ _ _, Below.refl _ _⟩
    | some ad =>
      obtain ⟨i0, hi, hz0, hz1, hz2⟩ := info_parts info_u64
      have heq : ∀ u : World, (binOp .eql 22 (.slice (some ad) 0 cap) (.slice none 0 0)).run Try.prog u = .ok (.bool false) u := fun u => Lib.run_eql_slice_nil u 22 49 _ _ _ _ _ Try.underlying22
      have hown : Hid ((w.alloc (.cells #[] 49)).ownsRow w.heap.size 49 1 (.slice (some ⟨w.heap.size, 0, none⟩) 0 0) 0 []) := Lib.hid (World.ownsRow_lit w #[] 0 (Nat.le_refl _) (by simp [maxLen]) rfl)
      go_enter Try.func89, Try.ntmps89
      go_wp2_with (at_builtin; refine wpList_append_own _ rfl _ _ 22 rfl w.heap.size 49 i0 (.int .u64 0) 1 8 Try.underlying22 hi hz0 hz1 hz2 rfl (by decide) (.slice (some ⟨w.heap.size, 0, none⟩) 0 0) 0 [] rfl hown.out ad 0 cap [] rfl rfl (by intro j u hu; simp at hu) (by intro u hu; cases hu) (by simp [maxLen]) (by omega) (by simp) ?_; intro v' w1 hown' hgrow _)
      go_ret
      exact ⟨_, rfl, hown', ((Below.refl _ w).alloc (Nat.le_refl _) (.cells #[] 49)).grown hgrow (by simp) (fun k e => by simp [Value.ownBlock] at e; omega)⟩
  · obtain ⟨i0, hi, hz0, hz1, hz2⟩ := info_parts info_u64
    have heq : ∀ u : World, (binOp .eql 22 (.slice (some ⟨b, off, none⟩) xs.length cap) (.slice none 0 0)).run Try.prog u = .ok (.bool false) u := fun u => Lib.run_eql_slice_nil u 22 49 _ _ _ _ _ Try.underlying22
    have hown : Hid ((w.alloc (.cells #[] 49)).ownsRow w.heap.size 49 1 (.slice (some ⟨w.heap.size, 0, none⟩) 0 0) 0 []) := Lib.hid (World.ownsRow_lit w #[] 0 (Nat.le_refl _) (by simp [maxLen]) rfl)
    have hnews : Hid (∀ j u, (valsK .u64 (zn xs))[j]? = some u → (w.alloc (.cells #[] 49)).cell? ((⟨b, off, none⟩ : Addr).add j) = some u) := Lib.hid (by
      intro j u hu
      have hj : j < xs.length := by
        rcases Nat.lt_or_ge j xs.length with h | h
        · exact h
        · rw [List.getElem?_eq_none (by rw [valsK_length, zn_length]; exact h)] at hu; cases hu
      rw [valsK_get (by rw [zn_length]; exact hj), zn_at hj] at hu
      have ha : (⟨b, off, none⟩ : Addr).add j = ⟨b, off + j, none⟩ := by unfold Addr.add; split <;> simp_all
      rw [ha, World.cell?_alloc_lt w _ _ hb, hc j hj]
      exact hu)
    have hone : Hid (∀ u ∈ valsK .u64 (zn xs), u.oneCell' = true) := Lib.hid (by intro u hu; obtain ⟨x, _, rfl⟩ := List.mem_map.1 hu; rfl)
    have hlv : Hid ((valsK .u64 (zn xs)).length = xs.length * 1) := Lib.hid (by rw [valsK_length, zn_length, Nat.mul_one])
    clear hz hc
    go_enter Try.func89, Try.ntmps89
    go_wp2_with (at_builtin; refine wpList_append_own _ rfl _ _ 22 rfl w.heap.size 49 i0 (.int .u64 0) 1 8 Try.underlying22 hi hz0 hz1 hz2 rfl (by decide) (.slice (some ⟨w.heap.size, 0, none⟩) 0 0) 0 [] rfl hown.out ⟨b, off, none⟩ xs.length cap (valsK .u64 (zn xs)) rfl hlv.out hnews.out hone.out (by simp only [maxLen]; omega) (by omega) (by simp) ?_; intro v' w1 hown' hgrow _)
    go_ret
    refine ⟨_, rfl, ?_, ((Below.refl _ w).alloc (Nat.le_refl _) (.cells #[] 49)).grown hgrow (by simp) (fun k e => by simp [Value.ownBlock] at e; omega)⟩
    unfold OwnK
    rw [zn_length]
    simpa using hown'
end Go.Proofs.Ytjapilpjahhimaa

/- Lists that a call makes at full length, all zeros; blocks of known cells that are stored to. -/
namespace Go.Proofs.Ytjapilpjahhimaa
open Go.RowKit Go.Shelf
theorem valsK_zeros (k : IntKind) (n : Nat) : (madeCells #[Value.int k 0] n).toList = valsK k (List.replicate n 0) := by
  rw [toList_madeCells_one]
  unfold valsK
  rw [List.map_replicate]
theorem OwnK.full (k : IntKind) (t : TypeId) (W : World) (n : Nat) (hn : n ≤ 17592186044416) : OwnK k t W.heap.size (W.alloc (.cells (madeCells #[Value.int k 0] n) t)) (.slice (some ⟨W.heap.size, 0, none⟩) n n) (List.replicate n 0) := by
  have h := World.ownsRow_lit (base := W.heap.size) (e := t) (size := 1) W (madeCells #[Value.int k 0] n) n (Nat.le_refl _) (by simp only [maxLen]; omega) (by rw [size_madeCells, Nat.mul_one])
  rw [valsK_zeros] at h
  unfold OwnK
  rw [List.length_replicate]
  exact h
/-- make([]uint64, n) -/
theorem makeN_u64 (n : Nat) (hn : n ≤ 17592186044416) (u : World) : (Instr.makeSlice 22 (.int .i64 (n : Int)) (.int .i64 (n : Int))).run Try.prog u =
    .ok (.slice (some ⟨u.heap.size, 0, none⟩) n n) (u.alloc (.cells (madeCells #[.int .u64 0] n) 49)) := by
  obtain ⟨i0, hi, hz0, hz1, hz2⟩ := info_parts info_u64
  have h := run_make (P := Try.prog) u 22 49 i0 (.int .u64 0) Try.underlying22 hi hz0 .i64 .i64 n n (by omega) (by omega) (by rw [hz2]; omega) (by omega)
  rw [h, hz1]
  simp [Value.cells]
section
variable {W W' : World} {g : Nat} {cs : Array Value} {t : TypeId}
theorem Ms.put (h : Ms W g cs t) {p : Addr} (hp : g ≠ p.block) (u : Value) : Ms (W.setCell p u) g cs t := (Below.heap_setCell _ _ _ _ hp).trans h
theorem Ms.set (h : Ms W g cs t) (i : Nat) (u : Value) : Ms (W.setCell ⟨g, i, none⟩ u) g (cs.setIfInBounds i u) t := by
  unfold Ms at h ⊢
  simp [World.setCell, Array.getElem?_modify, h]
end
end Go.Proofs.Ytjapilpjahhimaa

/- append of a whole list to one that the call has made. -/
namespace Go.Proofs.Ytjapilpjahhimaa
open Go.RowKit Go.Shelf
/-- append(own, xs...), whatever list comes in -/
theorem app_list {ops : Array Oper} {rest : List Oper} {o : Oper} {a : Act} {Q : Exit → Act → World → Prop} {W : World} (hgd : o.guard = none) (s x : Operand)
    (ho : o.op = .call { callee := .builtin .append, args := #[s, x], argTypes := #[22, 22] }) {b : Nat} {v u : Value} {zs : List Int} {xs : List Nat} (hs : a.eval s = v) (hx : a.eval x = u) (hA : Arg W u xs) (hsh : u = .slice none 0 0 ∨ ∃ ad m c, u = .slice (some ad) m c)
    (hown : OwnK .u64 49 b W v zs) (hlen : zs.length + xs.length ≤ 17592186044416) (hb : b ≤ W.heap.size)
    (h : ∀ v' w', OwnK .u64 49 b w' v' (zs ++ zn xs) → Below b W w' → wpList Try.prog ops Q rest (a.put o.dst v') w') : wpList Try.prog ops Q (o :: rest) a W := by
  obtain ⟨i0, hi, hz0, hz1, hz2⟩ := info_parts info_u64
  have hl := valsK_length .u64 zs
  obtain ⟨d, hd, hI⟩ := hA
  have key : ∀ (ad : Addr) (cap : Nat), u = .slice (some ad) xs.length cap → (∀ j v, (valsK .u64 (zn xs))[j]? = some v → W.cell? (ad.add j) = some v) → wpList Try.prog ops Q (o :: rest) a W := by
    intro ad cap hu hnews
    refine wpList_append_own _ hgd s x 22 ho b 49 i0 (.int .u64 0) 1 8 Try.underlying22 hi hz0 hz1 hz2 rfl (by decide) v zs.length (valsK .u64 zs) hs hown ad xs.length cap (valsK .u64 (zn xs)) (hx.trans hu) (by rw [valsK_length, zn_length, Nat.mul_one]) hnews (by intro u hu; obtain ⟨x, _, rfl⟩ := List.mem_map.1 hu; rfl) (by simp only [maxLen]; omega) (by omega) hb ?_
    intro v' w' h1 h2 _
    refine h v' w' ?_ (below_grown h2 hb fun q hq => (World.ownsRow.lt hown q hq).1)
    unfold OwnK
    rw [List.length_append, zn_length, show valsK .u64 (zs ++ zn xs) = valsK .u64 zs ++ valsK .u64 (zn xs) from by simp [valsK]]
    exact h1
  rcases hI with ⟨⟨ao, cap, hu⟩, rfl⟩ | ⟨off, cap, hu, hlc, hc⟩
  · cases ao with
    | some ad => exact key ad cap hu (fun j v hv => by simp [zn, valsK] at hv)
    | none =>
      by_cases hc0 : cap = 0
      · subst hc0
        refine wpList_append_own_none hgd s x 22 ho b 49 i0 1 Try.underlying22 hi v zs.length (valsK .u64 zs) hs hown (hx.trans hu) ?_
        refine h v W ?_ (Below.refl _ _)
        simpa [zn] using hown
      · rcases hsh with h1 | ⟨ad, m, c, h1⟩
        · rw [hu] at h1; simp only [Value.slice.injEq] at h1; exact absurd h1.2.2 hc0
        · rw [hu] at h1; simp at h1
  · refine key ⟨d, off, none⟩ cap hu ?_
    intro j v hv
    have hj : j < xs.length := by
      rcases Nat.lt_or_ge j xs.length with h | h
      · exact h
      · rw [List.getElem?_eq_none (by rw [valsK_length, zn_length]; exact h)] at hv; cases hv
    rw [valsK_get (by rw [zn_length]; exact hj), zn_at hj] at hv
    have ha : (⟨d, off, none⟩ : Addr).add j = ⟨d, off + j, none⟩ := by unfold Addr.add; split <;> simp_all
    rw [ha, hc j hj]
    exact hv
/-- a part of a list -/
def partW (xs : List Nat) (o n : Nat) : List Nat := (List.range n).map fun j => lim xs (o + j)
theorem partW_length (xs : List Nat) (o n : Nat) : (partW xs o n).length = n := by simp [partW]
theorem partW_at {xs : List Nat} {o n j : Nat} (h : j < n) : lim (partW xs o n) j = lim xs (o + j) := by
  unfold partW
  show (((List.range n).map fun j => lim xs (o + j))[j]?).getD 0 = _
  rw [List.getElem?_map, List.getElem?_range h, Option.map_some, Option.getD_some]
/-- a list that comes in, a part of it -/
theorem Arg.part {w : World} {S off n cap o k cap' : Nat} {xs : List Nat} (h : Arg w (.slice (some ⟨S, off, none⟩) n cap) xs) (ho : o + k ≤ xs.length) (hk : k ≤ cap') : Arg w (.slice (some ⟨S, off + o, none⟩) k cap') (partW xs o k) := by
  obtain ⟨b, hb, hR⟩ := h
  rcases Nat.eq_zero_or_pos k with hk0 | hk0
  · subst hk0
    exact ⟨b, hb, .inl ⟨⟨_, _, rfl⟩, rfl⟩⟩
  rcases hR with ⟨_, rfl⟩ | ⟨off', cap2, e, hl, hc⟩
  · simp only [List.length_nil] at ho; omega
  · simp only [Value.slice.injEq, Option.some.injEq, Addr.mk.injEq] at e
    obtain ⟨⟨rfl, rfl, _⟩, _, _⟩ := e
    refine ⟨S, hb, .inr ⟨off + o, cap', by rw [partW_length], by rw [partW_length]; exact hk, fun j hj => ?_⟩⟩
    rw [partW_length] at hj
    rw [partW_at hj, Nat.add_assoc]
    exact hc (o + j) (by omega)
theorem vboxm (w : World) (c d : Array Value) (t u : TypeId) (W : World) (h : W = (w.alloc (.cells c t)).alloc (.cells d u)) : Below w.heap.size w W ∧ Ms W w.heap.size c t ∧ Ms W (w.heap.size + 1) d u ∧ w.heap.size + 1 < W.heap.size := by
  subst h
  have b1 := (Below.refl _ w).alloc (Nat.le_refl _) (.cells c t)
  have b2 := (Below.refl _ (w.alloc (.cells c t))).alloc (Nat.le_refl _) (.cells d u)
  have G1 : Ms (w.alloc (.cells c t)) w.heap.size c t := World.alloc_heap_new w _
  have G2 := World.alloc_heap_new (w.alloc (.cells c t)) (.cells d u)
  rw [World.size_alloc] at G2
  refine ⟨below_both b1 b2, G1.behind b2, G2, ?_⟩
  rw [World.size_alloc, World.size_alloc]; omega
theorem newb (W : World) (o : Obj) : Below W.heap.size W (W.alloc o) := (Below.refl _ W).alloc (Nat.le_refl _) o
end Go.Proofs.Ytjapilpjahhimaa
