/- mat: Gemv. -/
import Derived.Test.YtjapilpjahhimaaMaTl
import Derived.Test.YtjapilpjahhimaaVeAxpy
import Derived.Laws.CopyOwn
import Derived.Deep.RegionHeld3
namespace Go.Proofs.Ytjapilpjahhimaa
open Go.RowKit Go.Shelf
theorem chk_row {xs : List Nat} {C i : Nat} (hf : finB xs xs.length = true) (h : i * C + C ≤ xs.length) (hC : C ≤ 64) : chkV (partW xs (i * C) C) = 0 := by
  refine chkV_ok.2 ⟨by rw [partW_length]; exact hC, finB_iff.2 fun j hj => ?_⟩
  rw [partW_length] at hj
  rw [partW_at hj]
  exact finB_iff.1 hf _ (by omega)
/-- one row by a column -/
def rowD (C : Nat) (xs vs : List Nat) (i : Nat) : Nat := dotV (partW xs (i * C) C) vs C
theorem dot_row {xs vs : List Nat} {C i : Nat} (hf : finB xs xs.length = true) (h : i * C + C ≤ xs.length) (hC : C ≤ 64) :
    dotE (partW xs (i * C) C) vs = (if firstE 0 (chkV vs) (if vs.length ≠ C then 11 else 0) ≠ 0 then firstE 0 (chkV vs) (if vs.length ≠ C then 11 else 0) else if cls (rowD C xs vs i) ≤ 1 then 0 else 13) ∧
    (firstE 0 (chkV vs) (if vs.length ≠ C then 11 else 0) = 0 → cls (rowD C xs vs i) ≤ 1 → dotR (partW xs (i * C) C) vs = rowD C xs vs i) := by
  have hl := partW_length xs (i * C) C
  have hb : bothV (partW xs (i * C) C) vs 0 = firstE 0 (chkV vs) (if vs.length ≠ C then 11 else 0) := by
    unfold bothV firstE
    simp only [chk_row hf h hC, hl]
    by_cases z : chkV vs = 0
    · by_cases q : vs.length = C
      · simp [z, q]
      · simp [z, q, show ¬ C = vs.length from fun e => q e.symm]
    · simp [z]
  have he : dotE (partW xs (i * C) C) vs = (if firstE 0 (chkV vs) (if vs.length ≠ C then 11 else 0) ≠ 0 then firstE 0 (chkV vs) (if vs.length ≠ C then 11 else 0) else if cls (rowD C xs vs i) ≤ 1 then 0 else 13) := by
    unfold dotE
    rw [hb, hl]
    unfold rowD
    first | done | rfl
  refine ⟨he, fun h0 h1 => ?_⟩
  have he0 : dotE (partW xs (i * C) C) vs = 0 := by rw [he, if_neg (not_not_intro h0), if_pos h1]
  unfold dotR
  rw [if_pos he0, hl]
  rfl
/-- the rows of a matrix by a column -/
def gemV (R C : Nat) (xs vs : List Nat) : List Nat := rowV R (rowD C xs vs)
def gemF (f : Int) (vs : List Nat) (C : Int) : Int := firstE f (chkV vs) (if (vs.length : Int) ≠ C then 11 else 0)
end Go.Proofs.Ytjapilpjahhimaa

/- mat: Ger, where there is none. -/
namespace Go.Proofs.Ytjapilpjahhimaa
open Go.RowKit Go.Shelf
def gerF (f ex ey : Int) (q : Bool) : Int := if f ≠ 0 then f else if ex ≠ 0 then ex else if ey ≠ 0 then ey else if q then 0 else 11
/-- the lengths of a column and of a row go with the sides -/
def gers (R C : Int) (m n : Nat) : Bool := (m : Int) == R && (n : Int) == C
/-- a column by a row, added to a matrix: one word -/
def gerG (C : Nat) (xs vs us : List Nat) (k : Nat) : Nat := plusU (lim xs k) (timesU (lim vs (k / C)) (lim us (k % C)))
/-- all words -/
def gerV (R C : Nat) (xs vs us : List Nat) : List Nat := rowV (R * C) (gerG C xs vs us)
theorem ger_axpy {C i : Nat} {xs vs us : List Nat} (hl : us.length = C) : axpyV (lim vs i) us (partW xs (i * C) C) = rowV C fun j => gerG C xs vs us (i * C + j) := by
  unfold axpyV
  rw [hl, partW_length, Nat.min_self]
  unfold rowV
  refine List.map_congr_left fun j hj => ?_
  rw [List.mem_range] at hj
  have e1 : (i * C + j) / C = i := by rw [Nat.mul_comm, Nat.mul_add_div (by omega), Nat.div_eq_of_lt hj, Nat.add_zero]
  have e2 : (i * C + j) % C = j := by rw [Nat.mul_comm, Nat.mul_add_mod, Nat.mod_eq_of_lt hj]
  unfold gerG
  rw [e1, e2, partW_at hj]
theorem ger_both {C i : Nat} {xs vs us : List Nat} (hv : chkV vs = 0) (hu : chkV us = 0) (hf : finB xs xs.length = true) (h : i * C + C ≤ xs.length) (hi : i < vs.length) (hl : us.length = C) : bothV us (partW xs (i * C) C) (nfE (lim vs i)) = 0 := by
  obtain ⟨h1, _⟩ := chkV_ok.1 hu
  have h2 := finB_iff.1 (chkV_ok.1 hv).2 i hi
  unfold bothV nfE
  rw [if_neg (not_not_intro hu), if_neg (not_not_intro (chk_row hf h (by omega)))]
  rw [hl, partW_length]
  simp only [ne_eq, not_true_eq_false, if_false]
  rw [if_neg (show ¬ 2 ≤ cls (lim vs i) by omega)]
  simp
/-- a row of them put in -/
theorem ger_put {C i : Nat} {xs vs us : List Nat} {k : Nat} (_h : i * C + C ≤ xs.length) (hk : k < xs.length) : lim (upd (gerG C xs vs us) xs ((i + 1) * C)) k = if i * C ≤ k ∧ k < i * C + C then gerG C xs vs us k else lim (upd (gerG C xs vs us) xs (i * C)) k := by
  rw [upd_at hk, upd_at hk, Nat.add_mul, Nat.one_mul]
  by_cases a : k < i * C
  · rw [if_pos (by omega), if_neg (by omega), if_pos a]
  · by_cases b : k < i * C + C
    · rw [if_pos b, if_pos ⟨by omega, b⟩]
    · rw [if_neg b, if_neg (by omega), if_neg a]
end Go.Proofs.Ytjapilpjahhimaa

/- copy into a part of a list that the call itself made. -/
namespace Go.Proofs.Ytjapilpjahhimaa
open Go.RowKit Go.Shelf
theorem take_splice {α : Type} (L cs : List α) (off n : Nat) (h : off + cs.length ≤ n) (hL : n ≤ L.length) : (L.take off ++ (cs ++ L.drop (off + cs.length))).take n = splice (L.take n) off cs := by
  unfold splice
  have h1 : (L.take off).length = off := by rw [List.length_take]; omega
  rw [List.take_append, h1, List.take_append, List.take_take, List.take_take, List.drop_take]
  rw [Nat.min_eq_right (by omega : off ≤ n), Nat.min_eq_left (by omega : off ≤ n), List.take_of_length_le (by omega : cs.length ≤ n - off)]
  rw [show n - off - cs.length = n - (off + cs.length) by omega]
theorem vals_splice (k : IntKind) (zs qs : List Int) (off : Nat) : valsK k (splice zs off qs) = splice (valsK k zs) off (valsK k qs) := by
  unfold splice valsK
  simp [List.map_take, List.map_drop]
theorem own_copy {ops : Array Oper} {rest : List Oper} {o : Oper} {a : Act} {Q : Exit → Act → World → Prop} {W : World} (hgd : o.guard = none) (d s : Operand)
    (ho : o.op = .call { callee := .builtin .copy, args := #[d, s], argTypes := #[22, 22] }) {b g n cap off len dcap sc : Nat} {zs qs : List Int} {ad : Addr} (hd : a.eval d = .slice (some ⟨g, off, none⟩) len dcap) (hs : a.eval s = .slice (some ad) qs.length sc)
    (hO : OwnK .u64 49 b W (.slice (some ⟨g, 0, none⟩) n cap) zs) (hl : len = qs.length) (hfit : off + qs.length ≤ zs.length) (hsrc : ∀ j v, (valsK .u64 qs)[j]? = some v → W.cell? (ad.add j) = some v)
    (h : ∀ w', OwnK .u64 49 b w' (.slice (some ⟨g, 0, none⟩) n cap) (splice zs off qs) → (∀ q, q ≠ g → w'.heap[q]? = W.heap[q]?) → w'.heap.size = W.heap.size → Below b W w' → wpList Try.prog ops Q rest (a.put o.dst (goInt qs.length)) w') :
    wpList Try.prog ops Q (o :: rest) a W := by
  have hO1 := hO
  unfold OwnK World.ownsRow at hO1
  obtain ⟨hz, hw⟩ := hO1
  rcases hw with ⟨e, _⟩ | ⟨g', cap', cur, e, hb, hg, hc1, hc2, hc3, hc4⟩
  · simp at e
  simp only [Value.slice.injEq, Option.some.injEq, Addr.mk.injEq, and_true] at e
  obtain ⟨rfl, rfl, rfl⟩ := e
  rw [Nat.mul_one] at hc3 hc4
  have hlen : (valsK .u64 qs).length = qs.length := valsK_length _ _
  have hcl : cur.toList.length = cur.size := Array.length_toList
  have key := wpList_copy_own hgd d s 22 22 ho 49 Try.underlying22 (by kernel_rfl) g off len dcap ad qs.length sc hd hs cur 49 hg (valsK .u64 qs) (by rw [hlen, hl]; exact (Nat.min_self _).symm) hsrc (by rw [hlen]; omega) (by intro u hu; obtain ⟨x, _, rfl⟩ := List.mem_map.1 hu; rfl) (Q := Q) (rest := rest) (ops := ops)
  refine key ?_
  rw [hlen]
  have hsz : (splice zs off qs).length = zs.length := length_splice zs off qs hfit
  refine h _ ?_ (fun q hq => setRow_other W g q _ (fun e => hq e)) (by simp [World.setRow]) (below_setRow (Below.refl _ _) hb _)
  unfold OwnK World.ownsRow
  rw [hsz]
  refine ⟨by rw [valsK_length, hsz, Nat.mul_one], .inr ⟨g, cap, _, rfl, hb, setRow_heap W g cur _ _ _ hg, hc1, hc2, ?_, ?_⟩⟩
  · rw [Nat.mul_one, ← hc3, ← hcl]
    simp
    omega
  · rw [Nat.mul_one, vals_splice, ← hc4]
    have := take_splice cur.toList (valsK .u64 qs) off zs.length (by rw [hlen]; exact hfit) (by omega)
    rw [hlen] at this
    exact this
theorem lim_splice {A B : List Nat} {o k : Nat} (h : o + B.length ≤ A.length) : lim (splice A o B) k = if o ≤ k ∧ k < o + B.length then lim B (k - o) else lim A k := by
  unfold splice lim
  have h1 : (A.take o).length = o := by rw [List.length_take]; omega
  by_cases a : k < o
  · rw [List.getElem?_append_left (by omega), if_neg (by omega), List.getElem?_take, if_pos a]
  · rw [List.getElem?_append_right (by omega), h1]
    by_cases b : k < o + B.length
    · rw [List.getElem?_append_left (by omega), if_pos ⟨by omega, b⟩]
    · rw [List.getElem?_append_right (by omega), if_neg (by omega), List.getElem?_drop, show o + B.length + (k - o - B.length) = k by omega]
theorem zn_splice (A B : List Nat) (o : Nat) : splice (zn A) o (zn B) = zn (splice A o B) := by
  unfold splice zn
  simp [List.map_take, List.map_drop]
theorem ger_splice {C i : Nat} {xs vs us : List Nat} (h : i * C + C ≤ xs.length) : splice (zn (upd (gerG C xs vs us) xs (i * C))) (i * C) (zn (rowV C fun j => gerG C xs vs us (i * C + j))) = zn (upd (gerG C xs vs us) xs ((i + 1) * C)) := by
  rw [zn_splice]
  congr 1
  have hl : i * C + (rowV C fun j => gerG C xs vs us (i * C + j)).length ≤ (upd (gerG C xs vs us) xs (i * C)).length := by rw [rowV_length, upd_length]; exact h
  refine ext_lim (by rw [length_splice _ _ _ hl, upd_length, upd_length]) fun k hk => ?_
  rw [length_splice _ _ _ hl, upd_length] at hk
  rw [lim_splice hl, rowV_length, ger_put h hk]
  by_cases a : i * C ≤ k ∧ k < i * C + C
  · rw [if_pos a, if_pos a, rowV_lim _ (by omega)]
    congr 1
    omega
  · rw [if_neg a, if_neg a]
end Go.Proofs.Ytjapilpjahhimaa

/- mat: Ger, told. -/
namespace Go.Proofs.Ytjapilpjahhimaa
open Go.RowKit Go.Shelf
/-- all blocks of w but d are as they were -/
def But1 (d : Nat) (w W : World) : Prop := w.heap.size ≤ W.heap.size ∧ ∀ g, g < w.heap.size → g ≠ d → W.heap[g]? = w.heap[g]?
section
variable {d : Nat} {w W W' : World}
theorem But1.refl (d : Nat) (w : World) : But1 d w w := ⟨Nat.le_refl _, fun _ _ _ => rfl⟩
theorem But1.below (h : But1 d w W) (hb : Below W.heap.size W W') : But1 d w W' := ⟨Nat.le_trans h.1 hb.size, fun g hg hne => (hb.block g (Nat.lt_of_lt_of_le hg h.1)).trans (h.2 g hg hne)⟩
theorem But1.put (h : But1 d w W) (h1 : ∀ q, q ≠ d → W'.heap[q]? = W.heap[q]?) (h2 : W'.heap.size = W.heap.size) : But1 d w W' := ⟨by rw [h2]; exact h.1, fun g hg hne => (h1 g hne).trans (h.2 g hg hne)⟩
theorem But1.ms {g : Nat} {cs : Array Value} {t : TypeId} (h : But1 d w W) (hM : Ms w g cs t) (hne : g ≠ d) : Ms W g cs t := (h.2 g hM.lt hne).trans hM
end
end Go.Proofs.Ytjapilpjahhimaa
