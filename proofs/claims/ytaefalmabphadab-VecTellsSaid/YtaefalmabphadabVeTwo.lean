/- Two lists that the call itself makes, apart from each other, appended to in turn. -/
import Derived.Test.YtaefalmabphadabVeTl
namespace Go.Proofs.Ytaefalmabphadab
open Go.RowKit Go.Shelf
theorem OwnK.grown {k : IntKind} {t : TypeId} {b : Nat} {W W' : World} {v : Value} {zs : List Int} {row : Option Nat} (h : OwnK k t b W v zs) (hg : W.grownBy W' row) (hne : ∀ q, v.ownBlock = some q → row ≠ some q) : OwnK k t b W' v zs := by
  unfold OwnK World.ownsRow at h ⊢
  refine ⟨h.1, h.2.imp id ?_⟩
  rintro ⟨g, cap, cur, rfl, h2, h3, h4⟩
  exact ⟨g, cap, cur, rfl, h2, (hg.block g (Array.getElem?_eq_some_iff.1 h3).1 (fun e => hne g rfl e.symm)).trans h3, h4⟩
/-- append(xs, x) in a region that draws its order -/
theorem step_app {ops : Array Oper} {o : Oper} {a : Act} {K : Act → World → Prop} {Q : Exit → Act → World → Prop} {E : Prop} {W : World} (hgd : o.guard = none) (s x : Operand)
    (ho : o.op = .call { callee := .builtin .append, args := #[s, x], argTypes := #[40, 40] }) {b : Nat} {v : Value} {xs : List Nat} {z : Nat} {g : Nat} (hs : a.eval s = v) (hx : a.eval x = .slice (some ⟨g, 0, none⟩) 1 1)
    (hc : W.cell? ⟨g, 0, none⟩ = some (.int .u64 (z : Int))) (hown : OwnK .u64 42 b W v (zn xs)) (hlen : xs.length + 1 ≤ 17592186044416) (hb : b ≤ W.heap.size)
    (h : ∀ g' cap w', OwnK .u64 42 b w' (.slice (some ⟨g', 0, none⟩) (xs.length + 1) cap) (zn (xs ++ [z])) → W.grownBy w' v.ownBlock → (v.ownBlock = some g' ∨ g' = W.heap.size) → g' < w'.heap.size → K (a.put o.dst (.slice (some ⟨g', 0, none⟩) (xs.length + 1) cap)) w') :
    if Region.wanted o (yielded ops a.tmps) = true then Oper.wp Try.prog o a W K Q else E := by
  obtain ⟨i0, hi, hz0, hz1, hz2⟩ := info_parts info_u64
  have hl := valsK_length .u64 (zn xs)
  have hl2 := zn_length xs
  have hown2 : W.ownsRow b 42 1 v xs.length (valsK .u64 (zn xs)) := by
    have h1 := hown
    unfold OwnK at h1
    rwa [hl2] at h1
  refine step_append_lies W hgd s x 40 ho b 42 i0 (.int .u64 0) 1 8 Try.underlying40 hi hz0 hz1 hz2 rfl (by decide) v xs.length (valsK .u64 (zn xs)) hs hown2 ⟨g, 0, none⟩ 1 1 [.int .u64 (z : Int)] hx rfl ?_ ?_ (by decide) (by simp only [maxLen]; omega) (by omega) hb _ rfl ?_
  · intro j u hu
    rcases j with _ | j
    · simp only [List.getElem?_cons_zero, Option.some.injEq] at hu
      subst hu
      exact hc
    · simp at hu
  · intro u hu
    simp only [List.mem_cons, List.not_mem_nil, or_false] at hu
    subst hu; rfl
  · intro g' cap w' h1 h2 h3 h4
    refine h g' cap w' ?_ h2 h3 h4
    unfold OwnK
    rw [zn_length, List.length_append, List.length_cons, List.length_nil, zn_snoc, ← valsK_snoc]
    exact h1
/-- two lists of the call's own -/
def Two (w W : World) (p r : Value) (P R : List Nat) : Prop :=
  Below w.heap.size w W ∧ OwnK .u64 42 w.heap.size W p (zn P) ∧ OwnK .u64 42 w.heap.size W r (zn R) ∧ ∀ g, p.ownBlock = some g → r.ownBlock ≠ some g
section
variable {w W W' : World} {p r : Value} {P R : List Nat}
theorem Two.below (h : Two w W p r P R) (hb : Below W.heap.size W W') : Two w W' p r P R :=
  ⟨below_both h.1 hb, h.2.1.below hb, h.2.2.1.below hb, h.2.2.2⟩
theorem Two.drew (h : Two w W p r P R) : Two w W.drew p r P R := ⟨h.1.drew, h.2.1.drew, h.2.2.1.drew, h.2.2.2⟩
theorem Two.alloc (h : Two w W p r P R) (o : Obj) : Two w (W.alloc o) p r P R := h.below (bel_new' W o)
theorem Two.flip (h : Two w W p r P R) : Two w W r p R P := ⟨h.1, h.2.2.1, h.2.1, fun g h1 h2 => h.2.2.2 g h2 h1⟩
theorem step_two {ops : Array Oper} {o : Oper} {a : Act} {K : Act → World → Prop} {Q : Exit → Act → World → Prop} {E : Prop} (hgd : o.guard = none) (s x : Operand)
    (ho : o.op = .call { callee := .builtin .append, args := #[s, x], argTypes := #[40, 40] }) {z : Nat} {g : Nat} (hs : a.eval s = p) (hx : a.eval x = .slice (some ⟨g, 0, none⟩) 1 1)
    (hc : W.cell? ⟨g, 0, none⟩ = some (.int .u64 (z : Int))) (hT : Two w W p r P R) (hlen : P.length + 1 ≤ 17592186044416)
    (h : ∀ p' w', Two w w' p' r (P ++ [z]) R → K (a.put o.dst p') w') :
    if Region.wanted o (yielded ops a.tmps) = true then Oper.wp Try.prog o a W K Q else E := by
  obtain ⟨h1, h2, h3, h4⟩ := hT
  refine step_app hgd s x ho hs hx hc h2 hlen h1.size ?_
  intro g' cap w' k1 k2 k3 k4
  refine h _ w' ⟨h1.trans (below_grown k2 h1.size fun q hq => (World.ownsRow.lt h2 q hq).1), k1, h3.grown k2 (fun q hq e => h4 q e hq), ?_⟩
  intro q hq e
  have hq2 : g' = q := by simpa [Value.ownBlock] using hq
  subst hq2
  rcases k3 with k3 | k3
  · exact h4 _ k3 e
  · have := (World.ownsRow.lt h3 _ e).2
    omega
theorem step_two' {ops : Array Oper} {o : Oper} {a : Act} {K : Act → World → Prop} {Q : Exit → Act → World → Prop} {E : Prop} (hgd : o.guard = none) (s x : Operand)
    (ho : o.op = .call { callee := .builtin .append, args := #[s, x], argTypes := #[40, 40] }) {z : Nat} {g : Nat} (hs : a.eval s = r) (hx : a.eval x = .slice (some ⟨g, 0, none⟩) 1 1)
    (hc : W.cell? ⟨g, 0, none⟩ = some (.int .u64 (z : Int))) (hT : Two w W p r P R) (hlen : R.length + 1 ≤ 17592186044416)
    (h : ∀ r' w', Two w w' p r' P (R ++ [z]) → K (a.put o.dst r') w') :
    if Region.wanted o (yielded ops a.tmps) = true then Oper.wp Try.prog o a W K Q else E :=
  step_two hgd s x ho hs hx hc hT.flip hlen fun r' w' h1 => h r' w' h1.flip
end
end Go.Proofs.Ytaefalmabphadab
