/- vernierlaw20: alive, first, when, told. -/
import Derived.Test.YtjapilpjahhimaaMaPair
import Derived.Test.YtjapilpjahhimaaShMake
import Derived.Deep.AppendLies
namespace Go.Proofs.Ytjapilpjahhimaa
open Go.RowKit Go.Shelf
theorem argK_lit {k : IntKind} {W : World} {t : TypeId} (zs : List Int) (cs : Array Value) (h : cs.toList = valsK k zs) : ArgK k (W.alloc (.cells cs t)) (.slice (some ⟨W.heap.size, 0, none⟩) zs.length zs.length) zs := by
  refine ⟨W.heap.size, by rw [World.size_alloc]; omega, .inr ⟨0, _, rfl, Nat.le_refl _, fun j hj => ?_⟩⟩
  rw [Nat.zero_add, World.cell?_alloc_new]
  have := valsK_get (k := k) hj
  rw [← h] at this
  simpa using this
theorem l20_adds : tellV (pairV plusU [4607182418800017408] [4607182418800017408]) (pairF 1 1 1 [4607182418800017408] 1 1 1 [4607182418800017408]) = 0 ∧ pairV plusU [4607182418800017408] [4607182418800017408] = [4611686018427387904] := by
  have h : plusU 4607182418800017408 4607182418800017408 = 4611686018427387904 := by unfold plusU; rw [radd_one20]
  have e : pairV plusU [4607182418800017408] [4607182418800017408] = [4611686018427387904] := by
    show [plusU 4607182418800017408 4607182418800017408] = _
    rw [h]
  rw [e]
  exact ⟨by decide, rfl⟩
where
  radd_one20 : radd 4607182418800017408 4607182418800017408 0 = (4611686018427387904, 0) := by decide
end Go.Proofs.Ytjapilpjahhimaa

/- vernierlaw20: alive. -/
namespace Go.Proofs.Ytjapilpjahhimaa
open Go.RowKit Go.Shelf
theorem l20_subs : tellV (pairV minusU [4607182418800017408] [4607182418800017408]) (pairF 1 1 1 [4607182418800017408] 1 1 1 [4607182418800017408]) = 0 ∧ pairV minusU [4607182418800017408] [4607182418800017408] = [0] := by
  have h : minusU 4607182418800017408 4607182418800017408 = 0 := by decide
  have e : pairV minusU [4607182418800017408] [4607182418800017408] = [0] := by
    show [minusU 4607182418800017408 4607182418800017408] = _
    rw [h]
  rw [e]
  exact ⟨by decide, rfl⟩
theorem low_word {x : Nat} (h : x < 18446744073709551616) : Low 18446744073709551616 [x] := by
  intro y hy
  simp only [List.mem_cons, List.not_mem_nil, or_false] at hy
  exact hy ▸ h
/-- a told list of one word, opened -/
theorem Arg.one {w : World} {b : Option Addr} {n c x : Nat} (h : Arg w (.slice b n c) [x]) : ∃ S o, b = some ⟨S, o, none⟩ ∧ n = 1 ∧ S < w.heap.size ∧ Hid (∀ W, Below w.heap.size w W → W.cell? ⟨S, o, none⟩ = some (.int .u64 (x : Int))) := by
  obtain ⟨S, a, cap, hS, e, _, HA⟩ := h.opened
  simp only [Value.slice.injEq] at e
  obtain ⟨rfl, rfl, rfl⟩ := e
  obtain ⟨o, rfl, _⟩ := HA.out w (Below.refl _ _) 0 (by simp)
  refine ⟨S, o, rfl, rfl, hS, Lib.hid fun W hW => ?_⟩
  obtain ⟨o2, e2, h2⟩ := HA.out W hW 0 (by simp)
  simp only [Option.some.injEq, Addr.mk.injEq, true_and, and_true] at e2
  subst e2
  rwa [Nat.add_zero] at h2
end Go.Proofs.Ytjapilpjahhimaa

/- Two lists that the call itself makes, apart from each other, appended to one behind the other. -/
namespace Go.Proofs.Ytjapilpjahhimaa
open Go.RowKit Go.Shelf
theorem OwnK.grew {k : IntKind} {t : TypeId} {b : Nat} {W W' : World} {v : Value} {zs : List Int} {row : Option Nat} (h : OwnK k t b W v zs) (hg : W.grownBy W' row) (hne : ∀ q, v.ownBlock = some q → row ≠ some q) : OwnK k t b W' v zs := by
  unfold OwnK World.ownsRow at h ⊢
  refine ⟨h.1, h.2.imp id ?_⟩
  rintro ⟨g, cap, cur, rfl, h2, h3, h4⟩
  exact ⟨g, cap, cur, rfl, h2, (hg.block g (Array.getElem?_eq_some_iff.1 h3).1 (fun e => hne g rfl e.symm)).trans h3, h4⟩
/-- append(xs, x), with the block told -/
theorem list_app {ops : Array Oper} {rest : List Oper} {o : Oper} {a : Act} {Q : Exit → Act → World → Prop} {W : World} (hgd : o.guard = none) (s x : Operand)
    (ho : o.op = .call { callee := .builtin .append, args := #[s, x], argTypes := #[22, 22] }) {b : Nat} {v : Value} {xs : List Nat} {z : Nat} {g : Nat} (hs : a.eval s = v) (hx : a.eval x = .slice (some ⟨g, 0, none⟩) 1 1)
    (hc : W.cell? ⟨g, 0, none⟩ = some (.int .u64 (z : Int))) (hown : OwnK .u64 49 b W v (zn xs)) (hlen : xs.length + 1 ≤ 17592186044416) (hb : b ≤ W.heap.size)
    (h : ∀ g' cap w', OwnK .u64 49 b w' (.slice (some ⟨g', 0, none⟩) (xs.length + 1) cap) (zn (xs ++ [z])) → W.grownBy w' v.ownBlock → (v.ownBlock = some g' ∨ g' = W.heap.size) → g' < w'.heap.size → wpList Try.prog ops Q rest (a.put o.dst (.slice (some ⟨g', 0, none⟩) (xs.length + 1) cap)) w') :
    wpList Try.prog ops Q (o :: rest) a W := by
  obtain ⟨i0, hi, hz0, hz1, hz2⟩ := info_parts info_u64
  have hl := valsK_length .u64 (zn xs)
  have hl2 := zn_length xs
  have hown2 : W.ownsRow b 49 1 v xs.length (valsK .u64 (zn xs)) := by
    have h1 := hown
    unfold OwnK at h1
    rwa [hl2] at h1
  refine wpList_append_lies W hgd s x 22 ho b 49 i0 (.int .u64 0) 1 8 Try.underlying22 hi hz0 hz1 hz2 rfl (by decide) v xs.length (valsK .u64 (zn xs)) hs hown2 ⟨g, 0, none⟩ 1 1 [.int .u64 (z : Int)] hx rfl ?_ ?_ (by decide) (by simp only [maxLen]; omega) (by omega) hb _ rfl ?_
  · intro j u hu
    rcases j with _ | j
    · simp only [List.getElem?_cons_zero, Option.some.injEq] at hu
      subst hu
      exact hc
    · simp at hu
  · intro u hu
    simp only [List.mem_cons, List.not_mem_nil, or_false] at hu
    subst hu; rfl
  · intro g' cap w' h1 h2 h3 h4
    refine h g' cap w' ?_ h2 h3 h4
    unfold OwnK
    rw [zn_length, List.length_append, List.length_cons, List.length_nil, zn_snoc, ← valsK_snoc]
    exact h1
/-- two lists of the call's own -/
def Duo (w W : World) (p r : Value) (P R : List Nat) : Prop :=
  Below w.heap.size w W ∧ OwnK .u64 49 w.heap.size W p (zn P) ∧ OwnK .u64 49 w.heap.size W r (zn R) ∧ ∀ g, p.ownBlock = some g → r.ownBlock ≠ some g
section
variable {w W W' : World} {p r : Value} {P R : List Nat}
theorem Duo.bel (h : Duo w W p r P R) : Below w.heap.size w W := h.1
theorem Duo.below (h : Duo w W p r P R) (hb : Below W.heap.size W W') : Duo w W' p r P R :=
  ⟨below_both h.1 hb, h.2.1.below hb, h.2.2.1.below hb, h.2.2.2⟩
theorem Duo.drew (h : Duo w W p r P R) : Duo w W.drew p r P R := ⟨h.1.drew, h.2.1.drew, h.2.2.1.drew, h.2.2.2⟩
theorem Duo.alloc (h : Duo w W p r P R) (o : Obj) : Duo w (W.alloc o) p r P R := h.below (bel_new W o)
theorem Duo.flip (h : Duo w W p r P R) : Duo w W r p R P := ⟨h.1, h.2.2.1, h.2.1, fun g h1 h2 => h.2.2.2 g h2 h1⟩
theorem Duo.nil (w : World) : Duo w w (.slice none 0 0) (.slice none 0 0) [] [] := ⟨Below.refl _ _, OwnK.nil _ _ _ _, OwnK.nil _ _ _ _, by intro g h; cases h⟩
theorem list_duo {ops : Array Oper} {rest : List Oper} {o : Oper} {a : Act} {Q : Exit → Act → World → Prop} (hgd : o.guard = none) (s x : Operand)
    (ho : o.op = .call { callee := .builtin .append, args := #[s, x], argTypes := #[22, 22] }) {z : Nat} {g : Nat} (hs : a.eval s = p) (hx : a.eval x = .slice (some ⟨g, 0, none⟩) 1 1)
    (hc : W.cell? ⟨g, 0, none⟩ = some (.int .u64 (z : Int))) (hT : Duo w W p r P R) (hlen : P.length + 1 ≤ 17592186044416)
    (h : ∀ p' w', Duo w w' p' r (P ++ [z]) R → wpList Try.prog ops Q rest (a.put o.dst p') w') :
    wpList Try.prog ops Q (o :: rest) a W := by
  obtain ⟨h1, h2, h3, h4⟩ := hT
  refine list_app hgd s x ho hs hx hc h2 hlen h1.size ?_
  intro g' cap w' k1 k2 k3 k4
  refine h _ w' ⟨h1.trans (below_grown k2 h1.size fun q hq => (World.ownsRow.lt h2 q hq).1), k1, h3.grew k2 (fun q hq e => h4 q e hq), ?_⟩
  intro q hq e
  have hq2 : g' = q := by simpa [Value.ownBlock] using hq
  subst hq2
  rcases k3 with k3 | k3
  · exact h4 _ k3 e
  · have := (World.ownsRow.lt h3 _ e).2
    omega
theorem list_duo' {ops : Array Oper} {rest : List Oper} {o : Oper} {a : Act} {Q : Exit → Act → World → Prop} (hgd : o.guard = none) (s x : Operand)
    (ho : o.op = .call { callee := .builtin .append, args := #[s, x], argTypes := #[22, 22] }) {z : Nat} {g : Nat} (hs : a.eval s = r) (hx : a.eval x = .slice (some ⟨g, 0, none⟩) 1 1)
    (hc : W.cell? ⟨g, 0, none⟩ = some (.int .u64 (z : Int))) (hT : Duo w W p r P R) (hlen : R.length + 1 ≤ 17592186044416)
    (h : ∀ r' w', Duo w w' p r' P (R ++ [z]) → wpList Try.prog ops Q rest (a.put o.dst r') w') :
    wpList Try.prog ops Q (o :: rest) a W :=
  list_duo hgd s x ho hs hx hc hT.flip hlen fun r' w' h1 => h r' w' h1.flip
end
end Go.Proofs.Ytjapilpjahhimaa
