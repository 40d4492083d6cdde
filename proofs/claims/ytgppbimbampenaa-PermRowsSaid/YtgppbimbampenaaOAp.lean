/- append of a whole list to one that the call has made. -/
import Derived.Test.YtgppbimbampenaaOz
import Derived.Laws.AppendOwnNone
namespace Go.Proofs.Ytgppbimbampenaa
open Go.RowKit Go.Shelf
/-- append(own, xs...), whatever list comes in -/
theorem app_list {ops : Array Oper} {rest : List Oper} {o : Oper} {a : Act} {Q : Exit → Act → World → Prop} {W : World} (hgd : o.guard = none) (s x : Operand)
    (ho : o.op = .call { callee := .builtin .append, args := #[s, x], argTypes := #[39, 39] }) {b : Nat} {v u : Value} {zs : List Int} {xs : List Nat} (hs : a.eval s = v) (hx : a.eval x = u) (hA : Arg W u xs) (hsh : u = .slice none 0 0 ∨ ∃ ad m c, u = .slice (some ad) m c)
    (hown : OwnK .u64 57 b W v zs) (hlen : zs.length + xs.length ≤ 17592186044416) (hb : b ≤ W.heap.size)
    (h : ∀ v' w', OwnK .u64 57 b w' v' (zs ++ zn xs) → Below b W w' → wpList Try.prog ops Q rest (a.put o.dst v') w') : wpList Try.prog ops Q (o :: rest) a W := by
  obtain ⟨i0, hi, hz0, hz1, hz2⟩ := info_parts info_u64
  have hl := valsK_length .u64 zs
  obtain ⟨d, hd, hI⟩ := hA
  have key : ∀ (ad : Addr) (cap : Nat), u = .slice (some ad) xs.length cap → (∀ j v, (valsK .u64 (zn xs))[j]? = some v → W.cell? (ad.add j) = some v) → wpList Try.prog ops Q (o :: rest) a W := by
    intro ad cap hu hnews
    refine wpList_append_own _ hgd s x 39 ho b 57 i0 (.int .u64 0) 1 8 Try.underlying39 hi hz0 hz1 hz2 rfl (by decide) v zs.length (valsK .u64 zs) hs hown ad xs.length cap (valsK .u64 (zn xs)) (hx.trans hu) (by rw [valsK_length, zn_length, Nat.mul_one]) hnews (by intro u hu; obtain ⟨x, _, rfl⟩ := List.mem_map.1 hu; rfl) (by simp only [maxLen]; omega) (by omega) hb ?_
    intro v' w' h1 h2 _
    refine h v' w' ?_ (below_grown h2 hb fun q hq => (World.ownsRow.lt hown q hq).1)
    unfold OwnK
    rw [List.length_append, zn_length, show valsK .u64 (zs ++ zn xs) = valsK .u64 zs ++ valsK .u64 (zn xs) from by simp [valsK]]
    exact h1
  rcases hI with ⟨⟨ao, cap, hu⟩, rfl⟩ | ⟨off, cap, hu, hlc, hc⟩
  · cases ao with
    | some ad => exact key ad cap hu (fun j v hv => by simp [zn, valsK] at hv)
    | none =>
      by_cases hc0 : cap = 0
      · subst hc0
        refine wpList_append_own_none hgd s x 39 ho b 57 i0 1 Try.underlying39 hi v zs.length (valsK .u64 zs) hs hown (hx.trans hu) ?_
        refine h v W ?_ (Below.refl _ _)
        simpa [zn] using hown
      · rcases hsh with h1 | ⟨ad, m, c, h1⟩
        · rw [hu] at h1; simp only [Value.slice.injEq] at h1; exact absurd h1.2.2 hc0
        · rw [hu] at h1; simp at h1
  · refine key ⟨d, off, none⟩ cap hu ?_
    intro j v hv
    have hj : j < xs.length := by
      rcases Nat.lt_or_ge j xs.length with h | h
      · exact h
      · rw [List.getElem?_eq_none (by rw [valsK_length, zn_length]; exact h)] at hv; cases hv
    rw [valsK_get (by rw [zn_length]; exact hj), zn_at hj] at hv
    have ha : (⟨d, off, none⟩ : Addr).add j = ⟨d, off + j, none⟩ := by unfold Addr.add; split <;> simp_all
    rw [ha, hc j hj]
    exact hv
/-- a part of a list -/
def partW (xs : List Nat) (o n : Nat) : List Nat := (List.range n).map fun j => lim xs (o + j)
theorem partW_length (xs : List Nat) (o n : Nat) : (partW xs o n).length = n := by simp [partW]
theorem partW_at {xs : List Nat} {o n j : Nat} (h : j < n) : lim (partW xs o n) j = lim xs (o + j) := by
  unfold partW
  show (((List.range n).map fun j => lim xs (o + j))[j]?).getD 0 = _
  rw [List.getElem?_map, List.getElem?_range h, Option.map_some, Option.getD_some]
/-- a list that comes in, a part of it -/
theorem Arg.part {w : World} {S off n cap o k cap' : Nat} {xs : List Nat} (h : Arg w (.slice (some ⟨S, off, none⟩) n cap) xs) (ho : o + k ≤ xs.length) (hk : k ≤ cap') : Arg w (.slice (some ⟨S, off + o, none⟩) k cap') (partW xs o k) := by
  obtain ⟨b, hb, hR⟩ := h
  rcases Nat.eq_zero_or_pos k with hk0 | hk0
  · subst hk0
    exact ⟨b, hb, .inl ⟨⟨_, _, rfl⟩, rfl⟩⟩
  rcases hR with ⟨_, rfl⟩ | ⟨off', cap2, e, hl, hc⟩
  · simp only [List.length_nil] at ho; omega
  · simp only [Value.slice.injEq, Option.some.injEq, Addr.mk.injEq] at e
    obtain ⟨⟨rfl, rfl, _⟩, _, _⟩ := e
    refine ⟨S, hb, .inr ⟨off + o, cap', by rw [partW_length], by rw [partW_length]; exact hk, fun j hj => ?_⟩⟩
    rw [partW_length] at hj
    rw [partW_at hj, Nat.add_assoc]
    exact hc (o + j) (by omega)
theorem vboxm (w : World) (c d : Array Value) (t u : TypeId) (W : World) (h : W = (w.alloc (.cells c t)).alloc (.cells d u)) : Below w.heap.size w W ∧ Ms W w.heap.size c t ∧ Ms W (w.heap.size + 1) d u ∧ w.heap.size + 1 < W.heap.size := by
  subst h
  have b1 := (Below.refl _ w).alloc (Nat.le_refl _) (.cells c t)
  have b2 := (Below.refl _ (w.alloc (.cells c t))).alloc (Nat.le_refl _) (.cells d u)
  have G1 : Ms (w.alloc (.cells c t)) w.heap.size c t := World.alloc_heap_new w _
  have G2 := World.alloc_heap_new (w.alloc (.cells c t)) (.cells d u)
  rw [World.size_alloc] at G2
  refine ⟨below_both b1 b2, G1.behind b2, G2, ?_⟩
  rw [World.size_alloc, World.size_alloc]; omega
theorem newb (W : World) (o : Obj) : Below W.heap.size W (W.alloc o) := (Below.refl _ W).alloc (Nat.le_refl _) o
end Go.Proofs.Ytgppbimbampenaa
