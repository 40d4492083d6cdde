/- Lists that a call makes: words and ints, one appended behind the other; lists of ints that come in. -/
import Derived.Test.YtjapilpjahhimaaArg
namespace Go.Proofs.Ytjapilpjahhimaa
open Go.RowKit Go.Shelf

/-- the cells of a list of numbers of one kind -/
def valsK (k : IntKind) (zs : List Int) : List Value := zs.map fun z => Value.int k z
theorem valsK_length (k : IntKind) (zs : List Int) : (valsK k zs).length = zs.length := by simp [valsK]
theorem valsK_snoc (k : IntKind) (zs : List Int) (z : Int) : valsK k zs ++ [Value.int k z] = valsK k (zs ++ [z]) := by simp [valsK]
/-- the number at a place, or 0 -/
def zat (zs : List Int) (i : Nat) : Int := zs[i]?.getD 0
theorem zat_get {zs : List Int} {i : Nat} (h : i < zs.length) : zs[i]? = some (zat zs i) := by
  unfold zat; rw [List.getElem?_eq_getElem h]; rfl
theorem zat_ge {zs : List Int} {i : Nat} (h : zs.length ≤ i) : zat zs i = 0 := by unfold zat; rw [List.getElem?_eq_none h]; rfl
theorem valsK_get {k : IntKind} {zs : List Int} {i : Nat} (h : i < zs.length) : (valsK k zs)[i]? = some (Value.int k (zat zs i)) := by
  unfold valsK
  rw [List.getElem?_map, zat_get h]; rfl
theorem zat_ext {xs ys : List Int} (hl : xs.length = ys.length) (h : ∀ i, i < xs.length → zat xs i = zat ys i) : xs = ys := by
  apply List.ext_getElem hl
  intro i h1 h2
  have := h i h1
  unfold zat at this
  rwa [List.getElem?_eq_getElem h1, List.getElem?_eq_getElem h2] at this
theorem zat_snoc_lt {zs : List Int} {z : Int} {i : Nat} (h : i < zs.length) : zat (zs ++ [z]) i = zat zs i := by
  unfold zat; rw [List.getElem?_append_left h]
theorem zat_snoc_at (zs : List Int) (z : Int) : zat (zs ++ [z]) zs.length = z := by
  unfold zat; simp
/-- the value v reads as the numbers zs of kind k; it lies in block b, or has none -/
def RdK (k : IntKind) (b : Nat) (W : World) (v : Value) (zs : List Int) : Prop :=
  ((∃ a cap, v = .slice a 0 cap) ∧ zs = []) ∨ ∃ off cap, v = .slice (some ⟨b, off, none⟩) zs.length cap ∧ zs.length ≤ cap ∧ ∀ j, j < zs.length → W.cell? ⟨b, off + j, none⟩ = some (Value.int k (zat zs j))
theorem RdK.kept {k : IntKind} {b : Nat} {W W' : World} {v : Value} {zs : List Int} (h : RdK k b W v zs) (hk : W'.heap[b]? = W.heap[b]?) : RdK k b W' v zs := by
  rcases h with h | ⟨off, cap, e, hl, hc⟩
  · exact .inl h
  · exact .inr ⟨off, cap, e, hl, fun j hj => (World.cell?_of_block (w := W) hk).trans (hc j hj)⟩
theorem RdK.slice {k : IntKind} {b : Nat} {W : World} {v : Value} {zs : List Int} (h : RdK k b W v zs) : ∃ a cap, v = .slice a zs.length cap ∧ (zs.length ≤ cap ∨ zs.length = 0) ∧ (0 < zs.length → ∃ off, a = some ⟨b, off, none⟩) := by
  rcases h with ⟨⟨a, cap, rfl⟩, rfl⟩ | ⟨off, cap, rfl, hl, _⟩
  · exact ⟨a, cap, rfl, .inr rfl, fun h => absurd h (by simp)⟩
  · exact ⟨_, cap, rfl, .inl hl, fun _ => ⟨off, rfl⟩⟩
theorem RdK.cell {k : IntKind} {b : Nat} {W : World} {zs : List Int} {off n cap : Nat} (h : RdK k b W (.slice (some ⟨b, off, none⟩) n cap) zs) {j : Nat} (hj : j < zs.length) : W.cell? ⟨b, off + j, none⟩ = some (Value.int k (zat zs j)) := by
  rcases h with ⟨_, rfl⟩ | ⟨off', cap', e, _, hc⟩
  · simp at hj
  · simp only [Value.slice.injEq, Option.some.injEq, Addr.mk.injEq] at e
    obtain ⟨⟨_, rfl, _⟩, _, _⟩ := e
    exact hc j hj
/-- a list of numbers that comes in -/
def ArgK (k : IntKind) (W : World) (v : Value) (zs : List Int) : Prop := ∃ b, b < W.heap.size ∧ RdK k b W v zs
theorem ArgK.behind {k : IntKind} {W W' : World} {v : Value} {zs : List Int} (h : ArgK k W v zs) (hb : Below W.heap.size W W') : ArgK k W' v zs := by
  obtain ⟨b, h1, h2⟩ := h
  exact ⟨b, Nat.lt_of_lt_of_le h1 hb.size, h2.kept (hb.block b h1)⟩
theorem ArgK.drew {k : IntKind} {W : World} {v : Value} {zs : List Int} (h : ArgK k W v zs) : ArgK k W.drew v zs := h
theorem ArgK.alloc {k : IntKind} {W : World} {v : Value} {zs : List Int} (h : ArgK k W v zs) (o : Obj) : ArgK k (W.alloc o) v zs := h.behind ((Below.refl _ W).alloc (Nat.le_refl _) o)
theorem ArgK.slice {k : IntKind} {W : World} {v : Value} {zs : List Int} (h : ArgK k W v zs) : ∃ a cap, v = .slice a zs.length cap := by
  obtain ⟨b, _, h⟩ := h
  obtain ⟨a, cap, e, _⟩ := h.slice
  exact ⟨a, cap, e⟩
/-- v is told as zs, in a block behind n, or is nil -/
def NewK (k : IntKind) (n : Nat) (W : World) (v : Value) (zs : List Int) : Prop := ∃ S, RdK k S W v zs ∧ S < W.heap.size ∧ (v = .slice none 0 0 ∨ n ≤ S)
theorem NewK.behind {k : IntKind} {n : Nat} {W W' : World} {v : Value} {zs : List Int} (h : NewK k n W v zs) (hb : Below W.heap.size W W') : NewK k n W' v zs := by
  obtain ⟨S, h1, h2, h3⟩ := h
  exact ⟨S, h1.kept (hb.block S h2), Nat.lt_of_lt_of_le h2 hb.size, h3⟩
theorem NewK.arg {k : IntKind} {n : Nat} {W : World} {v : Value} {zs : List Int} (h : NewK k n W v zs) : ArgK k W v zs := by
  obtain ⟨S, h1, h2, _⟩ := h
  exact ⟨S, h2, h1⟩
theorem NewK.mono {k : IntKind} {n n' : Nat} {W : World} {v : Value} {zs : List Int} (h : NewK k n W v zs) (hn : n' ≤ n) : NewK k n' W v zs := by
  obtain ⟨S, h1, h2, h3⟩ := h
  exact ⟨S, h1, h2, h3.imp id (Nat.le_trans hn)⟩
theorem New.lower {n n' : Nat} {W : World} {v : Value} {xs : List Nat} (h : New n W v xs) (hn : n' ≤ n) : New n' W v xs := by
  obtain ⟨S, h1, h2, h3⟩ := h
  exact ⟨S, h1, h2, h3.imp id (Nat.le_trans hn)⟩
/-- words as numbers -/
def zn (xs : List Nat) : List Int := xs.map fun (x : Nat) => (x : Int)
theorem zn_length (xs : List Nat) : (zn xs).length = xs.length := by simp [zn]
theorem zn_snoc (xs : List Nat) (x : Nat) : zn (xs ++ [x]) = zn xs ++ [(x : Int)] := by simp [zn]
theorem zn_at {xs : List Nat} {i : Nat} (_h : i < xs.length) : zat (zn xs) i = (lim xs i : Int) := by
  unfold zat zn lim
  rw [List.getElem?_map]
  cases xs[i]? <;> rfl
theorem rd_zn {b : Nat} {W : World} {v : Value} {xs : List Nat} : RdAt b W v xs ↔ RdK .u64 b W v (zn xs) := by
  unfold RdAt RdK
  rw [zn_length]
  constructor
  · rintro (⟨h, rfl⟩ | ⟨off, cap, h1, h2, h3⟩)
    · exact .inl ⟨h, rfl⟩
    · exact .inr ⟨off, cap, h1, h2, fun j hj => by rw [zn_at hj]; exact h3 j hj⟩
  · rintro (⟨h, h'⟩ | ⟨off, cap, h1, h2, h3⟩)
    · exact .inl ⟨h, by cases xs with | nil => rfl | cons => simp [zn] at h'⟩
    · exact .inr ⟨off, cap, h1, h2, fun j hj => by rw [← zn_at hj]; exact h3 j hj⟩
theorem arg_zn {W : World} {v : Value} {xs : List Nat} : Arg W v xs ↔ ArgK .u64 W v (zn xs) := by
  constructor
  · rintro ⟨b, h1, h2⟩; exact ⟨b, h1, rd_zn.1 h2⟩
  · rintro ⟨b, h1, h2⟩; exact ⟨b, h1, rd_zn.2 h2⟩
theorem new_zn {n : Nat} {W : World} {v : Value} {xs : List Nat} : New n W v xs ↔ NewK .u64 n W v (zn xs) := by
  constructor
  · rintro ⟨S, h1, h2⟩; exact ⟨S, rd_zn.1 h1, h2⟩
  · rintro ⟨S, h1, h2⟩; exact ⟨S, rd_zn.2 h1, h2⟩

/-- a list that comes in, opened: its block, and each word as it stands in any world behind -/
theorem Arg.opened {w : World} {v : Value} {xs : List Nat} (h : Arg w v xs) : ∃ S a cap, S < w.heap.size ∧ v = .slice a xs.length cap ∧ (xs.length ≤ cap ∨ xs.length = 0) ∧
    Hid (∀ W, Below w.heap.size w W → ∀ k, k < xs.length → ∃ off, a = some ⟨S, off, none⟩ ∧ W.cell? ⟨S, off + k, none⟩ = some (.int .u64 (lim xs k : Int))) := by
  obtain ⟨S, hS, hR⟩ := h
  obtain ⟨a, cap, rfl, hc, hs⟩ := hR.slice
  refine ⟨S, a, cap, hS, rfl, .inl hc, Lib.hid ?_⟩
  intro W hB k hk
  obtain ⟨off, rfl⟩ := hs (by omega)
  exact ⟨off, rfl, (hB.cell (p := ⟨S, off + k, none⟩) hS).trans (hR.cell hk)⟩
theorem ArgK.opened {q : IntKind} {w : World} {v : Value} {xs : List Int} (h : ArgK q w v xs) : ∃ S a cap, S < w.heap.size ∧ v = .slice a xs.length cap ∧ (xs.length ≤ cap ∨ xs.length = 0) ∧
    Hid (∀ W, Below w.heap.size w W → ∀ k, k < xs.length → ∃ off, a = some ⟨S, off, none⟩ ∧ W.cell? ⟨S, off + k, none⟩ = some (Value.int q (zat xs k))) := by
  obtain ⟨S, hS, hR⟩ := h
  obtain ⟨a, cap, rfl, hc, hs⟩ := hR.slice
  refine ⟨S, a, cap, hS, rfl, hc, Lib.hid ?_⟩
  intro W hB k hk
  obtain ⟨off, rfl⟩ := hs (by omega)
  exact ⟨off, rfl, (hB.cell (p := ⟨S, off + k, none⟩) hS).trans (hR.cell hk)⟩
/-- a list of numbers that the call itself has made, behind block number b, and may append to -/
def OwnK (k : IntKind) (t : TypeId) (b : Nat) (W : World) (v : Value) (zs : List Int) : Prop := W.ownsRow b t 1 v zs.length (valsK k zs)
section
variable {k : IntKind} {t : TypeId} {b : Nat} {W W' : World} {v : Value} {zs : List Int}
theorem OwnK.nil (k : IntKind) (t : TypeId) (W : World) (b : Nat) : OwnK k t b W (.slice none 0 0) [] := World.ownsRow_nil W b t 1
theorem OwnK.made (k : IntKind) (t : TypeId) (W : World) (n : Nat) (hn : n ≤ 17592186044416) (cs : Array Value) (hc : cs.size = n) : OwnK k t W.heap.size (W.alloc (.cells cs t)) (.slice (some ⟨W.heap.size, 0, none⟩) 0 n) [] := by
  have := World.ownsRow_made (base := W.heap.size) (e := t) (size := 1) W cs n (Nat.le_refl _) (by simp only [maxLen]; omega) (by omega)
  exact this
theorem OwnK.alloc (h : OwnK k t b W v zs) (o : Obj) : OwnK k t b (W.alloc o) v zs := World.ownsRow.alloc h o
theorem OwnK.drew (h : OwnK k t b W v zs) : OwnK k t b W.drew v zs := World.ownsRow.drew h
theorem OwnK.below (h : OwnK k t b W v zs) (hb : Below W.heap.size W W') : OwnK k t b W' v zs := by
  unfold OwnK World.ownsRow at h ⊢
  refine ⟨h.1, h.2.imp id ?_⟩
  rintro ⟨g, cap, cur, h1, h2, h3, h4⟩
  exact ⟨g, cap, cur, h1, h2, (hb.block g (Array.getElem?_eq_some_iff.1 h3).1).trans h3, h4⟩
theorem OwnK.new (h : OwnK k t b W v zs) (h0 : 0 < W.heap.size) : NewK k b W v zs := by
  have hl := valsK_length k zs
  rcases h.2 with ⟨h1, h2⟩ | ⟨g, cap, cur, rfl, hb, hg, hn, hm, hs, ht⟩
  · exact ⟨0, .inl ⟨⟨_, _, h1⟩, List.eq_nil_of_length_eq_zero h2⟩, h0, .inl h1⟩
  · refine ⟨g, .inr ⟨0, cap, rfl, hn, fun j hj => ?_⟩, (Array.getElem?_eq_some_iff.1 hg).1, .inr hb⟩
    rw [Nat.zero_add, World.ownsRow.cellAt h j (by omega), valsK_get hj]
theorem OwnK.mono {b' : Nat} (h : OwnK k t b W v zs) (hb : b' ≤ b) : OwnK k t b' W v zs :=
  ⟨h.1, h.2.imp id fun ⟨g, cap, cur, h1, h2, h3⟩ => ⟨g, cap, cur, h1, Nat.le_trans hb h2, h3⟩⟩
theorem OwnK.len (h : OwnK k t b W v zs) : ∃ a c, v = .slice a zs.length c := by
  rcases h.2 with ⟨h1, h2⟩ | ⟨g, cap, cur, rfl, _⟩
  · exact ⟨none, 0, by rw [h1, h2]⟩
  · exact ⟨_, _, rfl⟩
theorem cell_new1 (W : World) (u : Value) (t : TypeId) : (W.alloc (.cells #[u] t)).cell? ⟨W.heap.size, 0, none⟩ = some u := by
  rw [World.cell?_alloc_new]; rfl
theorem below_grown {w w' : World} {v : Value} {b : Nat} (hg : w.grownBy w' v.ownBlock) (hb : b ≤ w.heap.size) (hv : ∀ g, v.ownBlock = some g → b ≤ g) : Below b w w' :=
  ((Below.refl b w)).grown hg hb hv
/-- append(xs, x), where the call itself made xs -/
theorem app_one (k : IntKind) (t ts : TypeId) (z0 : Value) (i0 : TypeInfo) (hu : Try.prog.underlying ts = some (.slice t)) (hi : Try.prog.info? t = some i0) (hz0 : i0.zero = some z0) (hz1 : i0.size = 1) (hz2 : i0.bytes = 8) (hz3 : z0.cells.size = 1)
    {ops : Array Oper} {rest : List Oper} {o : Oper} {a : Act} {Q : Exit → Act → World → Prop} {W : World} (hgd : o.guard = none) (s x : Operand)
    (ho : o.op = .call { callee := .builtin .append, args := #[s, x], argTypes := #[ts, ts] }) {b : Nat} {v : Value} {zs : List Int} {z : Int} {g : Nat} (hs : a.eval s = v) (hx : a.eval x = .slice (some ⟨g, 0, none⟩) 1 1)
    (hc : W.cell? ⟨g, 0, none⟩ = some (Value.int k z)) (hown : OwnK k t b W v zs) (hlen : zs.length + 1 ≤ 17592186044416) (hb : b ≤ W.heap.size)
    (h : ∀ v' w', OwnK k t b w' v' (zs ++ [z]) → Below b W w' → wpList Try.prog ops Q rest (a.put o.dst v') w') : wpList Try.prog ops Q (o :: rest) a W := by
  have hl := valsK_length k zs
  refine wpList_append_own _ hgd s x ts ho b t i0 z0 1 8 hu hi hz0 hz1 hz2 hz3 (by decide) v zs.length (valsK k zs) hs hown ⟨g, 0, none⟩ 1 1 [Value.int k z] hx rfl ?_ ?_ (by simp only [maxLen]; omega) (by omega) hb ?_
  · intro j u hu
    rcases j with _ | j
    · simp only [List.getElem?_cons_zero, Option.some.injEq] at hu
      subst hu
      exact hc
    · simp at hu
  · intro u hu
    simp only [List.mem_cons, List.not_mem_nil, or_false] at hu
    subst hu; rfl
  · intro v' w' h1 h2 _
    refine h v' w' ?_ (below_grown h2 hb fun q hq => (World.ownsRow.lt hown q hq).1)
    have e : zs.length + 1 = (zs ++ [z]).length := by simp
    unfold OwnK
    rw [← e, ← valsK_snoc]
    exact h1
end
/-- a list that a call has told, opened: its block, and each number wherever that block is as it was -/
theorem NewK.opened {q : IntKind} {n : Nat} {w : World} {v : Value} {xs : List Int} (h : NewK q n w v xs) : ∃ S a cap, S < w.heap.size ∧ v = .slice a xs.length cap ∧ (0 < xs.length → n ≤ S) ∧
    Hid (∀ W : World, W.heap[S]? = w.heap[S]? → ∀ k, k < xs.length → ∃ off, a = some ⟨S, off, none⟩ ∧ W.cell? ⟨S, off + k, none⟩ = some (Value.int q (zat xs k))) := by
  obtain ⟨S, hR, hS, h3⟩ := h
  obtain ⟨a, cap, rfl, hc, hs⟩ := hR.slice
  refine ⟨S, a, cap, hS, rfl, fun h0 => h3.resolve_left (fun e => ?_), Lib.hid ?_⟩
  · simp only [Value.slice.injEq] at e
    omega
  intro W hB k hk
  obtain ⟨off, rfl⟩ := hs (by omega)
  exact ⟨off, rfl, (World.cell?_of_block (w := w) hB).trans (hR.cell hk)⟩
/-- append(xs, x) that fits, where the call itself made xs: the block stays -/
theorem app_fit (k : IntKind) (t ts : TypeId) (i0 : TypeInfo) (hu : Try.prog.underlying ts = some (.slice t)) (hi : Try.prog.info? t = some i0) (hz1 : i0.size = 1)
    {ops : Array Oper} {rest : List Oper} {o : Oper} {a : Act} {Q : Exit → Act → World → Prop} {W : World} (hgd : o.guard = none) (s x : Operand)
    (ho : o.op = .call { callee := .builtin .append, args := #[s, x], argTypes := #[ts, ts] }) {b : Nat} {d n cap : Nat} {zs : List Int} {z : Int} {g : Nat} (hs : a.eval s = .slice (some ⟨d, 0, none⟩) n cap) (hx : a.eval x = .slice (some ⟨g, 0, none⟩) 1 1)
    (hc : W.cell? ⟨g, 0, none⟩ = some (Value.int k z)) (hown : OwnK k t b W (.slice (some ⟨d, 0, none⟩) n cap) zs) (hn : zs.length = n) (hroom : n + 1 ≤ cap)
    (h : ∀ w', OwnK k t b w' (.slice (some ⟨d, 0, none⟩) (n + 1) cap) (zs ++ [z]) → W.grownBy w' (some d) → wpList Try.prog ops Q rest (a.put o.dst (.slice (some ⟨d, 0, none⟩) (n + 1) cap)) w') : wpList Try.prog ops Q (o :: rest) a W := by
  have hl := valsK_length k zs
  subst hn
  refine wpList_append_fits _ hgd s x ts ho b t i0 1 hu hi hz1 d zs.length cap (valsK k zs) hs hown ⟨g, 0, none⟩ 1 1 [Value.int k z] hx rfl ?_ ?_ hroom ?_
  · intro j u hu
    rcases j with _ | j
    · simp only [List.getElem?_cons_zero, Option.some.injEq] at hu
      subst hu
      exact hc
    · simp at hu
  · intro u hu
    simp only [List.mem_cons, List.not_mem_nil, or_false] at hu
    subst hu; rfl
  · intro w' h1 h2
    refine h w' ?_ h2
    have e : zs.length + 1 = (zs ++ [z]).length := by simp
    unfold OwnK
    rw [← e, ← valsK_snoc]
    exact h1
theorem fit_u64 {ops : Array Oper} {rest : List Oper} {o : Oper} {a : Act} {Q : Exit → Act → World → Prop} {W : World} (hgd : o.guard = none) (s x : Operand)
    (ho : o.op = .call { callee := .builtin .append, args := #[s, x], argTypes := #[22, 22] }) {b : Nat} {d n cap : Nat} {zs : List Int} {z : Int} {g : Nat} (hs : a.eval s = .slice (some ⟨d, 0, none⟩) n cap) (hx : a.eval x = .slice (some ⟨g, 0, none⟩) 1 1)
    (hc : W.cell? ⟨g, 0, none⟩ = some (Value.int .u64 z)) (hown : OwnK .u64 49 b W (.slice (some ⟨d, 0, none⟩) n cap) zs) (hn : zs.length = n) (hroom : n + 1 ≤ cap)
    (h : ∀ w', OwnK .u64 49 b w' (.slice (some ⟨d, 0, none⟩) (n + 1) cap) (zs ++ [z]) → W.grownBy w' (some d) → wpList Try.prog ops Q rest (a.put o.dst (.slice (some ⟨d, 0, none⟩) (n + 1) cap)) w') : wpList Try.prog ops Q (o :: rest) a W := by
  obtain ⟨i0, hi, hz0, hz1, hz2⟩ := info_parts info_u64
  exact app_fit .u64 49 22 i0 Try.underlying22 hi hz1 hgd s x ho hs hx hc hown hn hroom h
/-- make([]uint64, 0, n) -/
theorem make0_u64 (n : Nat) (hn : n ≤ 17592186044416) (u : World) : (Instr.makeSlice 22 (.int .i64 0) (.int .i64 (n : Int))).run Try.prog u =
    .ok (.slice (some ⟨u.heap.size, 0, none⟩) 0 n) (u.alloc (.cells (madeCells #[.int .u64 0] n) 49)) := by
  obtain ⟨i0, hi, hz0, hz1, hz2⟩ := info_parts info_u64
  have h := run_make (P := Try.prog) u 22 49 i0 (.int .u64 0) Try.underlying22 hi hz0 .i64 .i64 0 n (by omega) (by omega) (by rw [hz2]; omega) (by omega)
  rw [h, hz1]
  simp [Value.cells]
theorem own0_u64 (n : Nat) (hn : n ≤ 17592186044416) (u : World) : OwnK .u64 49 u.heap.size (u.alloc (.cells (madeCells #[.int .u64 0] n) 49)) (.slice (some ⟨u.heap.size, 0, none⟩) 0 n) [] :=
  OwnK.made .u64 _ u n hn _ (size_madeCells _ _)
/-- append of one word -/
theorem app_u64 {ops : Array Oper} {rest : List Oper} {o : Oper} {a : Act} {Q : Exit → Act → World → Prop} {W : World} (hgd : o.guard = none) (s x : Operand)
    (ho : o.op = .call { callee := .builtin .append, args := #[s, x], argTypes := #[22, 22] }) {b : Nat} {v : Value} {zs : List Int} {z : Int} {g : Nat} (hs : a.eval s = v) (hx : a.eval x = .slice (some ⟨g, 0, none⟩) 1 1)
    (hc : W.cell? ⟨g, 0, none⟩ = some (.int .u64 z)) (hown : OwnK .u64 49 b W v zs) (hlen : zs.length + 1 ≤ 17592186044416) (hb : b ≤ W.heap.size)
    (h : ∀ v' w', OwnK .u64 49 b w' v' (zs ++ [z]) → Below b W w' → wpList Try.prog ops Q rest (a.put o.dst v') w') : wpList Try.prog ops Q (o :: rest) a W := by
  obtain ⟨i0, hi, hz0, hz1, hz2⟩ := info_parts info_u64
  exact app_one .u64 49 22 (.int .u64 0) i0 Try.underlying22 hi hz0 hz1 hz2 rfl hgd s x ho hs hx hc hown hlen hb h
end Go.Proofs.Ytjapilpjahhimaa
