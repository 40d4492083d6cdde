/- winograd: a row, copied; addOuter. -/
import Derived.Test.YtjapilpjahhimaaWiMem
import Derived.Laws.CopyOwn
import Derived.Test.YtjapilpjahhimaaNeMax
import Derived.Test.YtjapilpjahhimaaWiNum
namespace Go.Proofs.Ytjapilpjahhimaa
open Go.RowKit Go.Shelf
def cpM (m : Nat → Nat → Nat) (S off : Nat) (qs : List Nat) : Nat → Nat → Nat := fun S' o' => if S' = S ∧ off ≤ o' ∧ o' < off + qs.length then lim qs (o' - off) else m S' o'
theorem cells_at {W : World} {S : Nat} {cur : Array Value} {t : TypeId} (hs : W.heap[S]? = some (.cells cur t (0, 0))) (o : Nat) : W.cell? ⟨S, o, none⟩ = cur[o]? := by
  simp only [World.cell?]
  rw [hs]
  simp
theorem St.row {L : Nat → Nat → Prop} {X : Nat → Prop} {b g s n u h : Nat} {m : Nat → Nat → Nat} {W : World} (k : St L X b g s n u h m W) {S off : Nat} {qs : List Nat} (hX : X S) {cur : Array Value} (hc : W.heap[S]? = some (.cells cur 49 (0, 0))) (hfit : off + qs.length ≤ cur.size) (hq : Low 18446744073709551616 qs) :
    St L X b g s n u h (cpM m S off qs) (W.setRow S (cur.toList.take off ++ (valsK .u64 (zn qs) ++ cur.toList.drop (off + (valsK .u64 (zn qs)).length))).toArray) := by
  have hvl : (valsK .u64 (zn qs)).length = qs.length := by rw [valsK_length, zn_length]
  have hnew := setRow_heap W S cur (cur.toList.take off ++ (valsK .u64 (zn qs) ++ cur.toList.drop (off + (valsK .u64 (zn qs)).length))).toArray 49 (0, 0) hc
  have hoth := fun j (hj : j ≠ S) => setRow_other W S j (cur.toList.take off ++ (valsK .u64 (zn qs) ++ cur.toList.drop (off + (valsK .u64 (zn qs)).length))).toArray hj
  have hsz : (W.setRow S (cur.toList.take off ++ (valsK .u64 (zn qs) ++ cur.toList.drop (off + (valsK .u64 (zn qs)).length))).toArray).heap.size = W.heap.size := by simp [World.setRow]
  generalize hA : (cur.toList.take off ++ (valsK .u64 (zn qs) ++ cur.toList.drop (off + (valsK .u64 (zn qs)).length))).toArray = arr at *
  generalize W.setRow S arr = W' at *
  have hget : ∀ o, arr[o]? = if off ≤ o ∧ o < off + qs.length then some (.int .u64 (lim qs (o - off) : Int)) else cur[o]? := fun o => by
    rw [← hA, List.getElem?_toArray]
    have h1 : (cur.toList.take off).length = off := by rw [List.length_take, Array.length_toList]; omega
    by_cases a : o < off
    · rw [List.getElem?_append_left (by omega), if_neg (by omega), List.getElem?_take, if_pos a, Array.getElem?_toList]
    · rw [List.getElem?_append_right (by omega), h1]
      by_cases c : o < off + qs.length
      · rw [List.getElem?_append_left (by omega), if_pos ⟨by omega, c⟩, valsK_get (by rw [zn_length]; omega), zn_at (by omega)]
      · rw [List.getElem?_append_right (by omega), if_neg (by omega), List.getElem?_drop, hvl, show off + qs.length + (o - off - qs.length) = o by omega, Array.getElem?_toList]
  obtain ⟨h1, ⟨ws, h2⟩, h3⟩ := k
  refine ⟨⟨fun S' o' hl => ?_, fun S' o' => ?_, fun S' hS' => ?_, fun S' o' hl => by rw [hsz]; exact h1.lt S' o' hl⟩, ?_, h3⟩
  · by_cases e : S' = S
    · subst e
      rw [cells_at hnew, hget]
      have h0 := h1.rd _ _ hl
      rw [cells_at hc] at h0
      unfold cpM
      by_cases c : off ≤ o' ∧ o' < off + qs.length
      · rw [if_pos c, if_pos ⟨rfl, c⟩]
      · rw [if_neg c, if_neg (fun k => c k.2)]; exact h0
    · have h0 := h1.rd _ _ hl
      have hcell : W'.cell? ⟨S', o', none⟩ = W.cell? ⟨S', o', none⟩ := by simp only [World.cell?]; rw [hoth S' e]
      rw [hcell, h0]
      unfold cpM
      rw [if_neg (fun k => e k.1)]
  · unfold cpM
    split
    · exact lim_lt_low hq _
    · exact h1.lw _ _
  · by_cases e : S' = S
    · subst e; exact ⟨arr, hnew⟩
    · obtain ⟨c, hw⟩ := h1.wb S' hS'
      exact ⟨c, (hoth S' e).trans hw⟩
  · by_cases e : S = s
    · subst e
      have hr := h2.row
      unfold Wr at hr
      rw [hc] at hr
      have hcur : cur = (valsK .u64 (zn ws)).toArray := by simpa using hr
      have hw : off + qs.length ≤ ws.length := by rw [hcur, List.size_toArray, valsK_length, zn_length] at hfit; exact hfit
      refine ⟨splice ws off qs, h2.clr (ws' := splice ws off qs) ?_ ⟨by rw [hsz]; exact Nat.le_refl _, fun j _ hj _ => hoth j hj⟩ (length_splice _ _ _ hw)⟩
      unfold Wr
      rw [← zn_splice, vals_splice]
      have : (splice (valsK .u64 (zn ws)) off (valsK .u64 (zn qs))).toArray = arr := by
        rw [← hA, hcur]
        unfold splice
        simp
      rw [this]
      exact hnew
    · exact ⟨ws, (hoth g (fun q => h3 S hX q.symm)).trans h2.box, (hoth s (fun q => e q.symm)).trans h2.row, h2.len, h2.ne, h2.bg, h2.bs, h2.un, h2.hn, h2.top⟩
theorem st_copy {ops : Array Oper} {rest : List Oper} {o : Oper} {a : Act} {Q : Exit → Act → World → Prop} {W : World} (hgd : o.guard = none) (d s' : Operand)
    (ho : o.op = .call { callee := .builtin .copy, args := #[d, s'], argTypes := #[22, 22] }) {L : Nat → Nat → Prop} {X : Nat → Prop} {b g s n u h : Nat} {m : Nat → Nat → Nat} {S off len dcap sc : Nat} {qs : List Nat} {ad : Addr} (hd : a.eval d = .slice (some ⟨S, off, none⟩) len dcap) (hs : a.eval s' = .slice (some ad) qs.length sc)
    (hO : St L X b g s n u h m W) (hX : X S) (hl : len = qs.length) (h0 : 0 < len) (hL : ∀ j, j < len → L S (off + j)) (hq : Low 18446744073709551616 qs) (hsrc : ∀ j v, (valsK .u64 (zn qs))[j]? = some v → W.cell? (ad.add j) = some v)
    (hk : ∀ w', St L X b g s n u h (cpM m S off qs) w' → Kq X g W w' → (∀ q, q ≠ S → w'.heap[q]? = W.heap[q]?) → w'.heap.size = W.heap.size → wpList Try.prog ops Q rest (a.put o.dst (goInt qs.length)) w') :
    wpList Try.prog ops Q (o :: rest) a W := by
  obtain ⟨cur, hc⟩ := hO.me.wb S hX
  have hlen : (valsK .u64 (zn qs)).length = qs.length := by rw [valsK_length, zn_length]
  have hfit : off + qs.length ≤ cur.size := by
    have h1 := hO.me.rd S _ (hL (len - 1) (by omega))
    rw [cells_at hc] at h1
    have := (Array.getElem?_eq_some_iff.1 h1).1
    omega
  have key := wpList_copy_own hgd d s' 22 22 ho 49 Try.underlying22 (by kernel_rfl) S off len dcap ad qs.length sc hd hs cur 49 hc (valsK .u64 (zn qs)) (by rw [hlen, hl]; exact (Nat.min_self _).symm) hsrc (by rw [hlen]; exact hfit) (by intro v hv; obtain ⟨x, _, rfl⟩ := List.mem_map.1 hv; rfl) (Q := Q) (rest := rest) (ops := ops)
  refine key ?_
  have hst := hO.row hX hc hfit hq
  have hoth : ∀ q, q ≠ S → (W.setRow S (cur.toList.take off ++ (valsK .u64 (zn qs) ++ cur.toList.drop (off + (valsK .u64 (zn qs)).length))).toArray).heap[q]? = W.heap[q]? := fun q hq => setRow_other W S q _ hq
  rw [hlen] at hst hoth ⊢
  exact hk _ hst ⟨by simp [World.setRow], fun j _ h1 _ => hoth j (fun e => h1 (by rw [e]; exact hX)), ⟨rfl, rfl, rfl⟩⟩ hoth (by simp [World.setRow])
theorem axpy_told {C a : Nat} {y r : Nat → Nat} (hC : 0 < C) (hC64 : C ≤ 64) : (tellV (axpyV a (rowV C y) (rowV C r)) (bothV (rowV C y) (rowV C r) (nfE a)) = 0 ∧ axpyV a (rowV C y) (rowV C r) = rowV C fun j => plusU (r j) (timesU a (y j))) ∨ (tellV (axpyV a (rowV C y) (rowV C r)) (bothV (rowV C y) (rowV C r) (nfE a)) ≠ 0 ∧ ∃ j, j < C ∧ 2 ≤ cls (plusU (r j) (timesU a (y j)))) := by
  have hax : axpyV a (rowV C y) (rowV C r) = rowV C fun j => plusU (r j) (timesU a (y j)) := by
    unfold axpyV
    rw [rowV_length, rowV_length, Nat.min_self]
    exact ext_lim (by rw [rowV_length, rowV_length]) fun k hk => by
      rw [rowV_length] at hk
      rw [rowV_lim _ hk, rowV_lim _ hk, rowV_lim _ hk, rowV_lim _ hk]
  rw [hax]
  by_cases h : tellV (rowV C fun j => plusU (r j) (timesU a (y j))) (bothV (rowV C y) (rowV C r) (nfE a)) = 0
  · exact .inl ⟨h, rfl⟩
  · refine .inr ⟨h, Classical.byContradiction fun hno => h ?_⟩
    have hfin : ∀ j, j < C → cls (plusU (r j) (timesU a (y j))) ≤ 1 := fun j hj => Classical.byContradiction fun hc => hno ⟨j, hj, by omega⟩
    have hr : ∀ j, j < C → cls (r j) ≤ 1 := fun j hj => Classical.byContradiction fun hc => hno ⟨j, hj, plus_bad (.inl (by omega))⟩
    have hy : ∀ j, j < C → cls (y j) ≤ 1 := fun j hj => Classical.byContradiction fun hc => hno ⟨j, hj, plus_bad (.inr (times_bad (.inr (by omega))))⟩
    have ha : cls a ≤ 1 := Classical.byContradiction fun hc => hno ⟨0, hC, plus_bad (.inr (times_bad (.inl (by omega))))⟩
    have hb : bothV (rowV C y) (rowV C r) (nfE a) = 0 := by
      unfold bothV
      rw [if_neg (fun k => k (chkV_ok.2 ⟨by rw [rowV_length]; exact hC64, finB_iff.2 fun j hj => by rw [rowV_length] at hj; rw [rowV_lim _ hj]; exact hy j hj⟩)),
        if_neg (fun k => k (chkV_ok.2 ⟨by rw [rowV_length]; exact hC64, finB_iff.2 fun j hj => by rw [rowV_length] at hj; rw [rowV_lim _ hj]; exact hr j hj⟩)),
        show nfE a = 0 by unfold nfE; rw [if_neg (by omega)], if_neg (by decide), if_neg (by rw [rowV_length, rowV_length]; omega)]
    rw [hb, tellV_yes, finB_iff.2 (fun j hj => by rw [rowV_length] at hj; rw [rowV_lim _ hj]; exact hfin j hj), if_pos rfl]
set_option maxRecDepth 100000 in
set_option maxHeartbeats 16000000 in
theorem wi_outer0 {R C S1 B1 N1 cap1 O1 T1 xS xo nx cx b g s n u h : Nat} {yb : Option Addr} {cy : Nat} {xf yf : Nat → Nat} {L : Nat → Nat → Prop} {X : Nat → Prop} {m : Nat → Nat → Nat} {w : World}
    (hs : St L X b g s n u h m w) (h1 : (Prt.mk S1 B1 N1 cap1 O1 R C T1).ok L) (hR : 0 < R) (hC : 0 < C) (hX : X S1) (hnx : R ≤ nx) (hxl : ∀ i, xf i < 18446744073709551616) (hyl : ∀ j, yf j < 18446744073709551616)
    (hx : ∀ m' W', St L X b g s n u h m' W' → Only (Prt.mk S1 B1 N1 cap1 O1 R C T1) m m' → Kq X g w W' → ∀ i, i < R → W'.cell? ⟨xS, xo + i, none⟩ = some (.int .u64 (xf i : Int)))
    (hy : ∀ m' W', St L X b g s n u h m' W' → Only (Prt.mk S1 B1 N1 cap1 O1 R C T1) m m' → Kq X g w W' → Arg W' (.slice yb C cy) (rowV C yf)) :
    Calls Try.prog 80 #[.agg #[.int .i64 (R : Int), .int .i64 (C : Int), .int .i64 (T1 : Int), .int .i64 (O1 : Int), .slice (some ⟨S1, B1, none⟩) N1 cap1], .slice (some ⟨xS, xo, none⟩) nx cx, .slice yb C cy] w fun e W' => ∃ (ok : Bool) (m' : Nat → Nat → Nat), e = .returned (.bool ok) ∧ St L X b g s n u h m' W' ∧ Only (Prt.mk S1 B1 N1 cap1 O1 R C T1) m m' ∧ (ok = true → ∀ i j, i < R → j < C → (Prt.mk S1 B1 N1 cap1 O1 R C T1).get m' i j = plusU ((Prt.mk S1 B1 N1 cap1 O1 R C T1).get m i j) (timesU (xf i) (yf j))) ∧ (ok = false → ∃ i j, i < R ∧ j < C ∧ 2 ≤ cls (plusU ((Prt.mk S1 B1 N1 cap1 O1 R C T1).get m i j) (timesU (xf i) (yf j)))) ∧ Kq X g w W' := by
  obtain ⟨f, hf⟩ : ∃ f : Nat → Nat → Nat, f = fun i j => plusU ((Prt.mk S1 B1 N1 cap1 O1 R C T1).get m i j) (timesU (xf i) (yf j)) := ⟨_, rfl⟩
  obtain ⟨old, hold⟩ : ∃ f : Nat → Nat → Nat, f = fun i j => (Prt.mk S1 B1 N1 cap1 O1 R C T1).get m i j := ⟨_, rfl⟩
  have hgx : ∀ S, X S → S < w.heap.size := fun S hS => (hs.me.wb S hS).lt
  have hgg : g < w.heap.size := by obtain ⟨ws, A⟩ := hs.an; exact A.box.lt
  have hR' : R ≤ 64 := h1.r
  have hC' : C ≤ 64 := h1.c
  have HAX : Hid (∀ (i : Nat) (m' : Nat → Nat → Nat) (W W2 : World), i < R → St L X b g s n u h m' W → Only (Prt.mk S1 B1 N1 cap1 O1 R C T1) m m' → Kq X g w W → Below W.heap.size W W2 → (∀ i' j', i' < R → j' < C → (Prt.mk S1 B1 N1 cap1 O1 R C T1).get m' i' j' = if i' < i then f i' j' else old i' j') →
      ∃ (E : Int) (Z : List Nat), Calls Try.prog 104 #[.int .u64 (xf i : Int), .slice yb C cy, .slice (some ⟨S1, (Prt.mk S1 B1 N1 cap1 O1 R C T1).at i 0, none⟩) C (cap1 - (O1 + i * T1))] W2 (fun e W' => ∃ v', e = .returned (.tuple #[v', .int .i64 E]) ∧ OwnK .u64 49 W2.heap.size W' v' (zn Z) ∧ Below W2.heap.size W2 W') ∧ ((E = 0 ∧ Z = rowV C (f i)) ∨ (E ≠ 0 ∧ ∃ j, j < C ∧ 2 ≤ cls (f i j)))) := Lib.hid (fun i m' W W2 hi hst ho hkq hb hv => by
    have hbd := h1.bound hi hC
    have hnc := h1.nc
    dsimp only at hbd hnc
    have hl : S1 < W.heap.size := hst.me.lt S1 _ (h1.lv i 0 hi hC)
    have a1 : Arg W2 (.slice (some ⟨S1, (Prt.mk S1 B1 N1 cap1 O1 R C T1).at i 0, none⟩) C (cap1 - (O1 + i * T1))) (rowV C (old i)) := by
      refine (arg_row hl (by omega) fun t ht => ?_).behind hb
      have hat : (Prt.mk S1 B1 N1 cap1 O1 R C T1).at i 0 + t = (Prt.mk S1 B1 N1 cap1 O1 R C T1).at i t := by unfold Prt.at; dsimp only; omega
      have hvv := hv i t hi ht
      rw [if_neg (by omega)] at hvv
      rw [hat, ← hvv]
      exact hst.cell (h1.lv i t hi ht)
    have a2 : Arg W2 (.slice yb C cy) (rowV C yf) := (hy m' W hst ho hkq).behind hb
    have hol : ∀ j, old i j < 18446744073709551616 := fun j => by rw [hold]; exact hs.me.lw _ _
    have hv2 := vec_axpy (a := xf i) (w := W2) (by have := hxl i; omega) a2 a1 (rowV_low fun j _ => by have := hyl j; omega) (rowV_low fun j _ => by have := hol j; omega) (by rw [rowV_length]; omega) (by rw [rowV_length]; omega)
    refine ⟨_, _, hv2, ?_⟩
    rcases axpy_told (a := xf i) (y := yf) (r := old i) hC hC' with ⟨q1, q2⟩ | ⟨q1, j, hj, q2⟩
    · refine .inl ⟨q1, ?_⟩
      rw [if_pos q1, q2, hf, hold]
    · exact .inr ⟨q1, j, hj, by rw [hf]; rw [hold] at q2; exact q2⟩)
  have HSTEP : Hid (∀ (i : Nat) (m' : Nat → Nat → Nat), i < R → Only (Prt.mk S1 B1 N1 cap1 O1 R C T1) m m' → (∀ i' j', i' < R → j' < C → (Prt.mk S1 B1 N1 cap1 O1 R C T1).get m' i' j' = if i' < i then f i' j' else old i' j') →
      Only (Prt.mk S1 B1 N1 cap1 O1 R C T1) m (cpM m' S1 ((Prt.mk S1 B1 N1 cap1 O1 R C T1).at i 0) (rowV C (f i))) ∧ (∀ i' j', i' < R → j' < C → (Prt.mk S1 B1 N1 cap1 O1 R C T1).get (cpM m' S1 ((Prt.mk S1 B1 N1 cap1 O1 R C T1).at i 0) (rowV C (f i))) i' j' = if i' < i + 1 then f i' j' else old i' j')) := Lib.hid (fun i m' hi ho hv => by
    have hat : ∀ t, (Prt.mk S1 B1 N1 cap1 O1 R C T1).at i t = (Prt.mk S1 B1 N1 cap1 O1 R C T1).at i 0 + t := fun t => by unfold Prt.at; dsimp only; omega
    refine ⟨fun S o hno => ?_, fun i' j' hi' hj' => ?_⟩
    · unfold cpM
      rw [rowV_length, if_neg, ho S o hno]
      rintro ⟨e0, k1, k2⟩
      exact hno ⟨e0, i, o - (Prt.mk S1 B1 N1 cap1 O1 R C T1).at i 0, hi, by dsimp only; omega, by rw [hat]; omega⟩
    · have h9 := hv i' j' hi' hj'
      show cpM m' S1 _ _ S1 ((Prt.mk S1 B1 N1 cap1 O1 R C T1).at i' j') = _
      unfold cpM
      rw [rowV_length]
      by_cases e : i' = i
      · subst e
        rw [hat j', if_pos ⟨rfl, by omega, by omega⟩, if_pos (by omega), show (Prt.mk S1 B1 N1 cap1 O1 R C T1).at i' 0 + j' - (Prt.mk S1 B1 N1 cap1 O1 R C T1).at i' 0 = j' by omega, rowV_lim _ hj']
      · have hne : ¬ (S1 = S1 ∧ (Prt.mk S1 B1 N1 cap1 O1 R C T1).at i 0 ≤ (Prt.mk S1 B1 N1 cap1 O1 R C T1).at i' j' ∧ (Prt.mk S1 B1 N1 cap1 O1 R C T1).at i' j' < (Prt.mk S1 B1 N1 cap1 O1 R C T1).at i 0 + C) := by
          rintro ⟨-, k1, k2⟩
          have h5 : (Prt.mk S1 B1 N1 cap1 O1 R C T1).at i' j' = (Prt.mk S1 B1 N1 cap1 O1 R C T1).at i ((Prt.mk S1 B1 N1 cap1 O1 R C T1).at i' j' - (Prt.mk S1 B1 N1 cap1 O1 R C T1).at i 0) := by rw [hat ((Prt.mk S1 B1 N1 cap1 O1 R C T1).at i' j' - (Prt.mk S1 B1 N1 cap1 O1 R C T1).at i 0)]; omega
          exact e (Prt.at_inj h1 hj' (show (Prt.mk S1 B1 N1 cap1 O1 R C T1).at i' j' - (Prt.mk S1 B1 N1 cap1 O1 R C T1).at i 0 < C by omega) h5).1
        rw [if_neg hne]
        have h10 : m' S1 ((Prt.mk S1 B1 N1 cap1 O1 R C T1).at i' j') = (Prt.mk S1 B1 N1 cap1 O1 R C T1).get m' i' j' := rfl
        rw [h10, h9]
        by_cases c : i' < i
        · rw [if_pos c, if_pos (by omega)]
        · rw [if_neg c, if_neg (by omega)])
  have HFL : Hid (∀ i, Low 18446744073709551616 (rowV C (f i))) := Lib.hid (fun i => rowV_low fun j _ => by rw [hf]; exact plusU_lt (by have := hs.me.lw S1 ((Prt.mk S1 B1 N1 cap1 O1 R C T1).at i j); unfold Prt.get; dsimp only; omega) (timesU_lt _ _))
  have HR1 := Lib.hid (fun (i : Nat) (hi : i < R) (W : World) => wi_row h1 hi hC (w := W))
  have HL1 : Hid (∀ i, i < R → ∀ j, j < C → L S1 ((Prt.mk S1 B1 N1 cap1 O1 R C T1).at i 0 + j)) := Lib.hid (fun i hi j hj => by
    have := h1.lv i j hi hj
    rwa [show (Prt.mk S1 B1 N1 cap1 O1 R C T1).at i j = (Prt.mk S1 B1 N1 cap1 O1 R C T1).at i 0 + j by unfold Prt.at; dsimp only; omega] at this)
  have HXS : Hid ((∀ S, X S → S < w.heap.size) ∧ g < w.heap.size ∧ X S1 ∧ 0 < C) := Lib.hid ⟨hgx, hgg, hX, hC⟩
  have HS0 := Lib.hid hs
  have HXC := Lib.hid hx
  have HV0 : Hid (∀ i' j', i' < R → j' < C → (Prt.mk S1 B1 N1 cap1 O1 R C T1).get m i' j' = if i' < 0 then f i' j' else old i' j') := Lib.hid (fun i' j' _ _ => by rw [if_neg (by omega), hold])
  have HFF : Hid (f = fun i j => plusU ((Prt.mk S1 B1 N1 cap1 O1 R C T1).get m i j) (timesU (xf i) (yf j))) := Lib.hid hf
  have HXL := Lib.hid (fun i => show ((xf i : Nat) : Int) ≤ 18446744073709551615 by have := hxl i; omega)
  have hR64 : (R : Int) ≤ 64 := by omega
  have hC64 : (C : Int) ≤ 64 := by omega
  have hRn : (R : Int) ≤ (nx : Int) := by omega
  obtain ⟨B0, G1⟩ := mbox w #[.int .i64 (R : Int), .int .i64 (C : Int), .int .i64 (T1 : Int), .int .i64 (O1 : Int), .slice (some ⟨S1, B1, none⟩) N1 cap1] 82 _ rfl
  have ka0 := G1.cell (i := 0) rfl
  clear hs h1 hR hC hR' hC' hX hxl hyl hx hy hf hold hgx hgg hnx
  go_enter Try.func80, Try.ntmps80
  go_wp2
  generalize w.alloc (.cells #[.int .i64 (R : Int), .int .i64 (C : Int), .int .i64 (T1 : Int), .int .i64 (O1 : Int), .slice (some ⟨S1, B1, none⟩) N1 cap1] 82) = W0 at *
  have HG := Lib.hid G1
  have HB0 := Lib.hid B0
  clear G1 B0 ka0
  go_loopw [13] (fun q wr => ∃ (i : Nat) (m' : Nat → Nat → Nat), i ≤ R ∧ q = .int .i64 i ∧ St L X b g s n u h m' wr ∧ Only (Prt.mk S1 B1 N1 cap1 O1 R C T1) m m' ∧ Hid (∀ i' j', i' < R → j' < C → (Prt.mk S1 B1 N1 cap1 O1 R C T1).get m' i' j' = if i' < i then f i' j' else old i' j') ∧ Kq X g W0 wr) (fun q _ => R - (intOf q).toNat)
  case atStart => exact ⟨0, m, Nat.zero_le _, rfl, HS0.out.behind HB0.out, Only.refl _ _, HV0, Kq.refl _ _ _⟩
  case round =>
    obtain ⟨i, m', hi, rfl, hst, hon, HV, hkq⟩ := hrel
    by_cases hlt : i < R
    · have q1 : decide ((i : Int) < (R : Int)) = true := decide_eq_true (by omega)
      have K1 := hkq.ms HG.out (fun h => by have := HXS.out.1 _ h; omega) (by have := HXS.out.2.1; omega)
      have hkw : Kq X g w wr := (Kq.of HB0.out).trans hkq
      have HAXI := Lib.hid (fun W2 (hb : Below wr.heap.size wr W2) => HAX.out i m' wr W2 hlt hst hon hkw hb HV.out)
      obtain ⟨P1, hP1⟩ : ∃ P, P = (Prt.mk S1 B1 N1 cap1 O1 R C T1).at i 0 := ⟨_, rfl⟩
      have HW1 := Lib.hid (HR1.out i hlt)
      dsimp only [Prt.val] at HW1
      rw [← hP1] at HW1 HAXI
      have HSV := Lib.hid (HSTEP.out i m' hlt hon HV.out)
      have HLV := Lib.hid (HL1.out i hlt)
      rw [← hP1] at HSV HLV
      generalize cap1 - (O1 + i * T1) = cq1 at *
      have hxi := HXL.out i
      have hxc := HXC.out m' wr hst hon hkw i hlt
      have hxlt : xS < wr.heap.size := by
        have := hxc
        rcases Nat.lt_or_ge xS wr.heap.size with k | k
        · exact k
        · exfalso
          simp only [World.cell?] at this
          rw [Array.getElem?_eq_none k] at this
          cases this
      have HK : Hid (∀ W, Below wr.heap.size wr W → W.cell? ⟨xS, xo + i, none⟩ = some (.int .u64 (xf i : Int)) ∧ W.cell? ⟨w.heap.size, 0, none⟩ = some (.int .i64 (R : Int)) ∧ W.cell? ⟨w.heap.size, 1, none⟩ = some (.int .i64 (C : Int)) ∧ W.cell? ⟨w.heap.size, 2, none⟩ = some (.int .i64 (T1 : Int)) ∧ W.cell? ⟨w.heap.size, 3, none⟩ = some (.int .i64 (O1 : Int)) ∧ W.cell? ⟨w.heap.size, 4, none⟩ = some (.slice (some ⟨S1, B1, none⟩) N1 cap1)) := Lib.hid (fun W h =>
        ⟨(h.cell (p := ⟨xS, xo + i, none⟩) hxlt).trans hxc, (K1.behind h).cell (i := 0) rfl, (K1.behind h).cell (i := 1) rfl, (K1.behind h).cell (i := 2) rfl, (K1.behind h).cell (i := 3) rfl, (K1.behind h).cell (i := 4) rfl⟩)
      have HI := Lib.hid hlt
      have HST := Lib.hid hst
      have HON := Lib.hid hon
      have HKQ := Lib.hid hkq
      have Br : Below wr.heap.size wr wr := Below.refl _ _
      clear hP1 hst hon hkq K1 hkw hxc hxlt
      have hin : (i : Int) < (nx : Int) := by omega
      go_upto_region 4 with (fail)
      go_cut [8, 9] from 16 to 27 (fun v E wz => ∃ (E0 : Int) (Z : List Nat), E = .int .i64 E0 ∧ OwnK .u64 49 wr.heap.size wz v (zn Z) ∧ Below wr.heap.size wr wz ∧ ((E0 = 0 ∧ Z = rowV C (f i)) ∨ (E0 ≠ 0 ∧ ∃ j, j < C ∧ 2 ≤ cls (f i j))))
      case first =>
       as_aux_lemma =>
        go_region_held3 (fun W => W.cell? ⟨xS, xo + i, none⟩ = some (.int .u64 (xf i : Int)) ∧ W.cell? ⟨w.heap.size, 0, none⟩ = some (.int .i64 (R : Int)) ∧ W.cell? ⟨w.heap.size, 1, none⟩ = some (.int .i64 (C : Int)) ∧ W.cell? ⟨w.heap.size, 2, none⟩ = some (.int .i64 (T1 : Int)) ∧ W.cell? ⟨w.heap.size, 3, none⟩ = some (.int .i64 (O1 : Int)) ∧ W.cell? ⟨w.heap.size, 4, none⟩ = some (.slice (some ⟨S1, B1, none⟩) N1 cap1))
          (first | with_reducible exact HK.out _ Br | with_reducible exact HK.out _ Br.drew)
          (first
            | (go_at_call 82; (with_reducible refine (HW1.out _).mono ?_); rintro e v4 ⟨rfl, bz⟩; replace Br : Below wr.heap.size wr v4 := (by first | with_reducible exact below_both Br bz | with_reducible exact below_both Br.drew bz); clear bz; obtain ⟨E0, Z, hax, hEZ⟩ := HAXI.out v4 Br)
            | (go_at_call 104; (with_reducible refine hax.mono ?_); rintro e v5 ⟨v', rfl, hO, bz⟩; replace hO := OwnK.mono hO Br.size; replace Br : Below wr.heap.size wr v5 := (by first | with_reducible exact below_both Br bz | with_reducible exact below_both Br.drew bz); clear bz)
            | (fail))
        all_goals
          go_wp2_with fail
          go_meet
          exact ⟨E0, Z, rfl, hO, Br, hEZ⟩
      obtain ⟨E0, Z, hE0, hO, bR, hEZ⟩ := hcut
      subst hE0
      have HST6 := Lib.hid (HST.out.behind bR)
      have HKQ6 := Lib.hid (HKQ.out.below bR)
      have K6 := HKQ6.out.ms HG.out (fun h => by have := HXS.out.1 _ h; omega) (by have := HXS.out.2.1; omega)
      have ka0 := K6.cell (i := 0) rfl
      have ka1 := K6.cell (i := 1) rfl
      have ka2 := K6.cell (i := 2) rfl
      have ka3 := K6.cell (i := 3) rfl
      have ka4 := K6.cell (i := 4) rfl
      clear HK Br HST HKQ HAXI bR K6
      rcases hEZ with ⟨rfl, rfl⟩ | ⟨hne, j, hj, hbad⟩
      · have hlL : (zn (rowV C (f i))).length = C := by rw [zn_length, rowV_length]
        obtain ⟨gq, cq, eq, hq1, hq2⟩ := hO.form (by rw [hlL]; exact HXS.out.2.2.2)
        subst eq
        have HOO := Lib.hid hO
        have hlr : (zn (rowV C (f i))).length = (rowV C (f i)).length := zn_length _
        have HGQ : Hid (gq < wc.heap.size) := Lib.hid hq2
        rw [hlr] at hO HOO ⊢
        clear hO hq1 hq2 hlL hlr
        go_wp2_with fail
        refine (HW1.out _).mono ?_
        rintro e w7 ⟨rfl, b7⟩
        have st7 := HST6.out.behind b7
        have HSRC : Hid (∀ j v, (valsK .u64 (zn (rowV C (f i))))[j]? = some v → w7.cell? ((⟨gq, 0, none⟩ : Addr).add j) = some v) := Lib.hid (fun j v hv => by
          have hO7 := HOO.out.below b7
          have hj : j < (zn (rowV C (f i))).length := by
            rcases Nat.lt_or_ge j (zn (rowV C (f i))).length with h | h
            · exact h
            · rw [List.getElem?_eq_none (by rw [valsK_length]; exact h)] at hv; cases hv
          rw [valsK_get hj] at hv
          have ha : (⟨gq, 0, none⟩ : Addr).add j = ⟨gq, j, none⟩ := by unfold Addr.add; split <;> simp_all
          rw [ha, hO7.cell hj]; exact hv)
        have HK7 := Lib.hid (HKQ6.out.below b7)
        have hcl : C = (rowV C (f i)).length := (rowV_length _ _).symm
        have HCL := Lib.hid hcl
        clear b7 ka0 ka1 ka2 ka3 ka4 hcl
        go_wp2_with (refine st_copy rfl (.tmp 32) (.tmp 33) rfl rfl rfl st7 HXS.out.2.2.1 HCL.out HXS.out.2.2.2 HLV.out (HFL.out i) HSRC.out ?_; intro w8 hs8 hk8 hh8 hz8)
        exact ⟨⟨i + 1, _, by have := HI.out; omega, by simp, hs8, HSV.out.1, Lib.hid HSV.out.2, HK7.out.trans hk8⟩, by have := HI.out; simp [intOf]; omega⟩
      · have HBAD : Hid (∃ i j, i < R ∧ j < C ∧ 2 ≤ cls (plusU ((Prt.mk S1 B1 N1 cap1 O1 R C T1).get m i j) (timesU (xf i) (yf j)))) := Lib.hid ⟨i, j, HI.out, hj, by have := HFF.out; rw [this] at hbad; exact hbad⟩
        have q3 : (E0 != 0) = true := bne_iff_ne.2 hne
        clear hne hbad hj hO ka0 ka1 ka2 ka3 ka4
        go_wp2
        go_ret
        exact ⟨false, m', rfl, HST6.out, HON.out, (fun h => by cases h), fun _ => HBAD.out, (Kq.of HB0.out).trans HKQ6.out⟩
    · obtain rfl : i = R := by omega
      have q1 : decide ((i : Int) < (i : Int)) = false := decide_eq_false (by omega)
      have HST := Lib.hid hst
      have HON := Lib.hid hon
      have HKQ := Lib.hid hkq
      clear hst hon hkq hlt
      go_wp2
      go_ret
      exact ⟨true, m', rfl, HST.out, HON.out, fun _ i' j' hi' hj' => by rw [HV.out i' j' hi' hj', if_pos hi', HFF.out], (fun h => by cases h), (Kq.of HB0.out).trans HKQ.out⟩
end Go.Proofs.Ytjapilpjahhimaa

/- winograd: take. -/
namespace Go.Proofs.Ytjapilpjahhimaa
open Go.RowKit Go.Shelf
def clM (m : Nat → Nat → Nat) (s u P : Nat) : Nat → Nat → Nat := fun S o => if S = s ∧ u ≤ o ∧ o < u + P then 0 else m S o
section
variable {L : Nat → Nat → Prop} {X : Nat → Prop} {b g s n u h : Nat} {m : Nat → Nat → Nat} {W W' : World}
theorem St.lg (k : St L X b g s n u h m W) {S o : Nat} (hl : L S o) : S ≠ g := by
  rintro rfl
  have h1 := k.me.rd S o hl
  obtain ⟨ws, A⟩ := k.an
  have hb := A.box
  unfold Ms at hb
  have h2 := cells_at hb o
  rw [h1] at h2
  rcases (show o = 0 ∨ o = 1 ∨ o = 2 ∨ o = 3 ∨ 4 ≤ o by omega) with rfl | rfl | rfl | rfl | h4
  · simp at h2
  · simp at h2
  · simp at h2
  · simp at h2
  · rw [Array.getElem?_eq_none (by simpa using h4)] at h2; cases h2
theorem St.took (k : St L X b g s n u h m W) {ws : List Nat} (A : AN b W g s n u h ws) {P u' h' : Nat} (hP : u + P ≤ n) (A' : AN b W' g s n u' h' (clrL ws u P)) (hk : Kp g s W W') (hX : X s) : St L X b g s n u' h' (clM m s u P) W' := by
  have hle : (clrL ws u P).length = ws.length := clrL_length (by rw [A.len]; exact hP)
  refine ⟨⟨fun S o hl => ?_, fun S o => ?_, fun S hS => ?_, fun S o hl => Nat.lt_of_lt_of_le (k.me.lt S o hl) hk.size⟩, ⟨_, A'⟩, k.gx⟩
  · by_cases e : S = s
    · subst e
      have h1 := k.me.rd _ _ hl
      have hr := A.row
      unfold Wr at hr
      have h2 := cells_at hr o
      rw [h1] at h2
      have ho : o < ws.length := by
        have := (Array.getElem?_eq_some_iff.1 h2.symm).1
        simpa [valsK_length, zn_length] using this
      have h3 := A.row.cell ho
      rw [h1] at h3
      have hm : m S o = lim ws o := by
        simp only [Option.some.injEq, Value.int.injEq, true_and] at h3
        exact Int.ofNat.inj h3
      rw [A'.row.cell (by rw [hle]; exact ho), clrL_at (by rw [A.len]; exact hP)]
      unfold clM
      by_cases c : u ≤ o ∧ o < u + P
      · rw [if_pos c, if_pos ⟨rfl, c⟩]
      · rw [if_neg c, if_neg (fun q => c q.2), hm]
    · have h0 := k.me.rd S o hl
      have hh := hk.keep S (k.me.lt S o hl) (k.lg hl) e
      have hcell : W'.cell? ⟨S, o, none⟩ = W.cell? ⟨S, o, none⟩ := by simp only [World.cell?]; rw [hh]
      rw [hcell, h0]
      unfold clM
      rw [if_neg (fun q => e q.1)]
  · unfold clM
    split
    · decide
    · exact k.me.lw _ _
  · by_cases e : S = s
    · subst e; exact ⟨_, A'.row⟩
    · obtain ⟨c, hw⟩ := k.me.wb S hS
      exact ⟨c, (hk.keep S (Wb.lt ⟨c, hw⟩) (k.gx S hS) e).trans hw⟩
theorem Kq.kp (h : Kp g s W W') (hX : X s) (hio : Io W W') : Kq X g W W' := ⟨h.size, fun j hj h1 h2 => h.keep j hj h2 (fun e => h1 (by rw [e]; exact hX)), hio⟩
theorem St.far (k : St L X b g s n u h m W) {q i : Nat} {v : Value} (hq : ∀ S o, L S o → S ≠ q) (_hX : ∀ S, X S → S ≠ q) (hg : g ≠ q) (hs : s ≠ q) : St L X b g s n u h m (W.setCell ⟨q, i, none⟩ v) := by
  obtain ⟨h1, ⟨ws, h2⟩, h3⟩ := k
  refine ⟨⟨fun S o hl => ?_, h1.lw, fun S hS => (h1.wb S hS).set q i v, fun S o hl => by rw [World.size_setCell]; exact h1.lt S o hl⟩, ⟨ws, h2.put hg hs v⟩, h3⟩
  have hh := Below.heap_setCell W ⟨q, i, none⟩ v S (hq S o hl)
  have hcell : (W.setCell ⟨q, i, none⟩ v).cell? ⟨S, o, none⟩ = W.cell? ⟨S, o, none⟩ := by simp only [World.cell?]; rw [hh]
  rw [hcell]; exact h1.rd S o hl
theorem Kq.fresh (h : Kq X g W W') {q i : Nat} (hq : W.heap.size ≤ q) (v : Value) : Kq X g W (W'.setCell ⟨q, i, none⟩ v) :=
  ⟨by rw [World.size_setCell]; exact h.size, fun j hj h1 h2 => (Below.heap_setCell W' ⟨q, i, none⟩ v j (by show j ≠ q; omega)).trans (h.keep j hj h1 h2), h.io.trans (Io.set _ _ _)⟩
theorem St.lt2 (k : St L X b g s n u h m W) : g < W.heap.size ∧ s < W.heap.size := by
  obtain ⟨ws, A⟩ := k.an
  exact ⟨A.box.lt, A.row.lt⟩
end
set_option maxRecDepth 100000 in
set_option maxHeartbeats 16000000 in
theorem wi_take {L : Nat → Nat → Prop} {X : Nat → Prop} {b g s n u h r c P : Nat} {cut : Int} {m : Nat → Nat → Nat} {w : World} (hs : St L X b g s n u h m w) (hX : X s) (hr : 1 ≤ r ∧ r ≤ 64) (hc : 1 ≤ c ∧ c ≤ 64) (hP : r * c = P) (hu : u + P ≤ n) :
    Calls Try.prog 100 #[.agg #[.pointer (some ⟨g, 0, none⟩), .int .i64 cut], .int .i64 (r : Int), .int .i64 (c : Int)] w fun e W' => e = .returned (Prt.mk s u P P 0 r c c).val ∧ St L X b g s n (u + P) (max h (u + P)) (clM m s u P) W' ∧ Kq X g w W' := by
  have hP0 : 0 < P := by rw [← hP]; exact Nat.mul_pos (by omega) (by omega)
  obtain ⟨B0, G1, G2, hw⟩ := vboxm w #[.pointer (some ⟨g, 0, none⟩), .int .i64 cut] #[.int .i64 0, .int .i64 0, .int .i64 0, .int .i64 0, .slice none 0 0] 79 82 _ rfl
  have hs0 := hs.behind B0
  obtain ⟨ws, A⟩ := hs0.an
  have HTK := Lib.hid (ar_take A hr.2 hc.2 hP hu)
  have HS0 := Lib.hid hs0
  have HA := Lib.hid A
  have hgg : g < w.heap.size := by obtain ⟨ws, A⟩ := hs.an; exact A.box.lt
  have hsx : ∀ S, X S → S < w.heap.size := fun S hS => (hs.me.wb S hS).lt
  have HXS : Hid (X s ∧ s < w.heap.size ∧ g < w.heap.size ∧ u + P ≤ n ∧ r ≤ 64 ∧ c ≤ 64 ∧ r * c = P ∧ 0 < P) := Lib.hid ⟨hX, hsx s hX, hgg, hu, hr.2, hc.2, hP, hP0⟩
  have HSX := Lib.hid hsx
  have HLT := Lib.hid (fun S o (hl : L S o) => hs.me.lt S o hl)
  have c0 := G1.cell (i := 0) rfl
  clear hs hs0 A hX hr hc hP hu hw hgg hsx hP0
  unfold Prt.val
  dsimp only
  go_enter Try.func100, Try.ntmps100
  go_wp2_with fail
  generalize (w.alloc (.cells #[.pointer (some ⟨g, 0, none⟩), .int .i64 cut] 79)).alloc (.cells #[.int .i64 0, .int .i64 0, .int .i64 0, .int .i64 0, .slice none 0 0] 82) = W0 at *
  refine HTK.out.mono ?_
  rintro e w1 ⟨rfl, hA1, hk1, hb1⟩
  have K1 := hk1.ms G1 (by have := HXS.out; omega) (by have := HXS.out; omega)
  have K2 := hk1.ms G2 (by have := HXS.out; omega) (by have := HXS.out; omega)
  obtain ⟨b2, G3⟩ := mbox w1 #[.int .i64 (r : Int), .int .i64 (c : Int), .int .i64 (c : Int), .int .i64 (u : Int)] 38 _ rfl
  have hst1 := HS0.out.took HA.out HXS.out.2.2.2.1 hA1 hk1 HXS.out.1
  have hst2 := hst1.behind b2
  have hA2 := hA1.behind b2
  have HKQ := Lib.hid (((Kq.of B0).trans (Kq.kp (X := X) hk1 HXS.out.1 (Io.of hb1))).below b2)
  have HLD := Lib.hid (fun W (hb : Below (w1.alloc (.cells #[.int .i64 (r : Int), .int .i64 (c : Int), .int .i64 (c : Int), .int .i64 (u : Int)] 38)).heap.size (w1.alloc (.cells #[.int .i64 (r : Int), .int .i64 (c : Int), .int .i64 (c : Int), .int .i64 (u : Int)] 38)) W) => ar_lend_yes (hA2.behind hb) HXS.out.2.2.2.2.1 HXS.out.2.2.2.2.2.1 HXS.out.2.2.2.2.2.2.1 (Nat.le_refl _))
  have L1 := K1.behind b2
  have L2 := K2.behind b2
  have HST := Lib.hid hst2
  have e0 := L1.cell (i := 0) rfl
  have d0 := G3.cell (i := 0) rfl
  have d1 := G3.cell (i := 1) rfl
  have d2 := G3.cell (i := 2) rfl
  have d3 := G3.cell (i := 3) rfl
  clear hA1 hk1 hb1 b2 hst1 hst2 hA2 K1 K2 G1 G2 c0 HTK B0 L1 G3
  have hlent : lentS s u P = .slice (some ⟨s, u, none⟩) P P := by unfold lentS; rw [if_neg (by have := HXS.out; omega)]
  rw [hlent] at HLD
  clear hlent
  go_wp2_with fail
  generalize w1.alloc (.cells #[.int .i64 (r : Int), .int .i64 (c : Int), .int .i64 (c : Int), .int .i64 (u : Int)] 38) = w2 at *
  refine (HLD.out _ (Below.refl _ _)).mono ?_
  rintro e w3 ⟨rfl, b3⟩
  have HB3 := Lib.hid b3
  clear e0 d0 d1 d2 d3 b3 HLD
  go_wp2_with fail
  refine wi_whole.mono ?_
  rintro e w4 ⟨rfl, b4⟩
  have HB4 := Lib.hid (below_both HB3.out b4)
  have L4 := L2.behind (below_both HB3.out b4)
  have g0 := L4.cell (i := 0) rfl
  have g1 := L4.cell (i := 1) rfl
  have g2 := L4.cell (i := 2) rfl
  have g3 := L4.cell (i := 3) rfl
  have g4 := L4.cell (i := 4) rfl
  have f0 := L4.f 0
  have f1 := L4.f 1
  have f2 := L4.f 2
  have f3 := L4.f 3
  have f4 := L4.f 4
  have HS4 := Lib.hid (HST.out.behind HB4.out)
  have HK4 := Lib.hid (HKQ.out.below HB4.out)
  clear L2 L4 b4
  go_wp2
  refine bodyPost_ret (v := .agg #[.int .i64 (r : Int), .int .i64 (c : Int), .int .i64 (c : Int), .int .i64 0, .slice (some ⟨s, u, none⟩) P P]) (by simp [results, Try.results100, go_sem, g0, g1, g2, g3, g4]) rfl ⟨rfl, ?_, ?_⟩
  · have k1 : ∀ S o, L S o → S ≠ w.heap.size + 1 := fun S o hl => by have := HLT.out S o hl; omega
    have k2 : ∀ S, X S → S ≠ w.heap.size + 1 := fun S hS => by have := HSX.out S hS; omega
    have k3 : g ≠ w.heap.size + 1 := by have := HXS.out; omega
    have k4 : s ≠ w.heap.size + 1 := by have := HXS.out; omega
    exact ((((HS4.out.far k1 k2 k3 k4).far k1 k2 k3 k4).far k1 k2 k3 k4).far k1 k2 k3 k4).far k1 k2 k3 k4
  · exact ((((HK4.out.fresh (by omega) _).fresh (by omega) _).fresh (by omega) _).fresh (by omega) _).fresh (by omega) _
end Go.Proofs.Ytjapilpjahhimaa

/- winograd: registers. -/
namespace Go.Proofs.Ytjapilpjahhimaa
open Go.RowKit Go.Shelf
theorem dotN_congr {f f' g g' : Fn} {K i j : Nat} (hf : ∀ t, t < K → f i t = f' i t) (hg : ∀ t, t < K → g t j = g' t j) : dotN f g K i j = dotN f' g' K i j := by
  unfold dotN
  have e1 : rowV K (f i) = rowV K (f' i) := ext_lim (by rw [rowV_length, rowV_length]) fun t ht => by rw [rowV_length] at ht; rw [rowV_lim _ ht, rowV_lim _ ht, hf t ht]
  have e2 : (rowV K fun t => g t j) = rowV K fun t => g' t j := ext_lim (by rw [rowV_length, rowV_length]) fun t ht => by rw [rowV_length] at ht; rw [rowV_lim _ ht, rowV_lim _ ht, hg t ht]
  rw [e1, e2]
/-- f and f' are alike where i < m, j < k -/
def Eqv (m k : Nat) (f f' : Fn) : Prop := ∀ i j, i < m → j < k → f i j = f' i j
theorem Eqv.refl (m k : Nat) (f : Fn) : Eqv m k f f := fun _ _ _ _ => rfl
theorem Eqv.symm {m k : Nat} {f f' : Fn} (h : Eqv m k f f') : Eqv m k f' f := fun i j hi hj => (h i j hi hj).symm
theorem Eqv.trans {m k : Nat} {f f' f'' : Fn} (h : Eqv m k f f') (h' : Eqv m k f' f'') : Eqv m k f f'' := fun i j hi hj => (h i j hi hj).trans (h' i j hi hj)
theorem eqv_plus {m k : Nat} {f f' g g' : Fn} (h : Eqv m k f f') (h' : Eqv m k g g') : Eqv m k (fun i j => plusU (f i j) (g i j)) fun i j => plusU (f' i j) (g' i j) := fun i j hi hj => by dsimp only; rw [h i j hi hj, h' i j hi hj]
theorem eqv_minus {m k : Nat} {f f' g g' : Fn} (h : Eqv m k f f') (h' : Eqv m k g g') : Eqv m k (fun i j => minusU (f i j) (g i j)) fun i j => minusU (f' i j) (g' i j) := fun i j hi hj => by dsimp only; rw [h i j hi hj, h' i j hi hj]
theorem eqv_pr {p q r : Nat} {m k n : Nat} {rec : Fn → Fn → Fn} {f f' g g' : Fn} (hr : ∀ f f' g g', Eqv p q f f' → Eqv q r g g' → Eqv p r (rec f g) (rec f' g')) (hf : Eqv m k f f') (hg : Eqv k n g g') (hm : 2 * p ≤ m) (hk : 2 * q ≤ k) (hn : 2 * r ≤ n) (x : Nat) : Eqv p r (pr rec p q r f g x) (pr rec p q r f' g' x) := by
  have f1 : Eqv p q f f' := fun i j hi hj => hf _ _ (by omega) (by omega)
  have f2 : Eqv p q (fun i j => f i (q + j)) fun i j => f' i (q + j) := fun i j hi hj => hf _ _ (by omega) (by omega)
  have f3 : Eqv p q (fun i j => f (p + i) j) fun i j => f' (p + i) j := fun i j hi hj => hf _ _ (by omega) (by omega)
  have f4 : Eqv p q (fun i j => f (p + i) (q + j)) fun i j => f' (p + i) (q + j) := fun i j hi hj => hf _ _ (by omega) (by omega)
  have g1 : Eqv q r g g' := fun i j hi hj => hg _ _ (by omega) (by omega)
  have g2 : Eqv q r (fun i j => g i (r + j)) fun i j => g' i (r + j) := fun i j hi hj => hg _ _ (by omega) (by omega)
  have g3 : Eqv q r (fun i j => g (q + i) j) fun i j => g' (q + i) j := fun i j hi hj => hg _ _ (by omega) (by omega)
  have g4 : Eqv q r (fun i j => g (q + i) (r + j)) fun i j => g' (q + i) (r + j) := fun i j hi hj => hg _ _ (by omega) (by omega)
  unfold pr
  split
  · exact hr _ _ _ _ f1 g1
  · exact hr _ _ _ _ f2 g3
  · exact hr _ _ _ _ (eqv_minus f2 (eqv_minus (eqv_plus f3 f4) f1)) g4
  · exact hr _ _ _ _ f4 (eqv_minus (eqv_minus g4 (eqv_minus g2 g1)) g3)
  · exact hr _ _ _ _ (eqv_plus f3 f4) (eqv_minus g2 g1)
  · exact hr _ _ _ _ (eqv_minus (eqv_plus f3 f4) f1) (eqv_minus g4 (eqv_minus g2 g1))
  · exact hr _ _ _ _ (eqv_minus f1 f3) (eqv_minus g4 g2)
theorem eqv_bl {p r : Nat} {P P' : Nat → Fn} (h : ∀ x, Eqv p r (P x) (P' x)) (x : Nat) : Eqv p r (bl P x) (bl P' x) := by
  unfold bl
  split
  · exact eqv_plus (h 1) (h 2)
  · exact eqv_plus (eqv_plus (eqv_plus (h 1) (h 6)) (h 5)) (h 3)
  · exact eqv_minus (eqv_plus (eqv_plus (h 1) (h 6)) (h 7)) (h 4)
  · exact eqv_plus (eqv_plus (eqv_plus (h 1) (h 6)) (h 7)) (h 5)
theorem eqv_qd {p r : Nat} {B B' : Nat → Fn} (h : ∀ x, Eqv p r (B x) (B' x)) : Eqv (2 * p) (2 * r) (qd p r B) (qd p r B') := fun i j hi hj => by
  unfold qd
  split
  · split
    · exact h 1 _ _ (by omega) (by omega)
    · exact h 2 _ _ (by omega) (by omega)
  · split
    · exact h 3 _ _ (by omega) (by omega)
    · exact h 4 _ _ (by omega) (by omega)
theorem sevN_congr {cut : Nat} : ∀ (m k n : Nat) (f f' g g' : Fn), Eqv m k f f' → Eqv k n g g' → Eqv m n (sevN cut m k n f g) (sevN cut m k n f' g') := by
  intro m
  induction m using Nat.strongRecOn with
  | _ m ih =>
    intro k n f f' g g' hf hg
    cases h : fastN m k n cut
    · rw [sevN_slow h, sevN_slow h]
      exact fun i j hi hj => dotN_congr (fun t ht => hf i t hi ht) (fun t ht => hg t j ht hj)
    · rw [sevN_fast h, sevN_fast h]
      have hm := (fastN_iff.1 h).1
      have hq := eqv_qd (eqv_bl (eqv_pr (rec := sevN cut (m / 2) (k / 2) (n / 2)) (ih (m / 2) (by omega) (k / 2) (n / 2)) hf hg (by omega) (by omega) (by omega)))
      intro i j hi hj
      unfold combo
      by_cases c : i < 2 * (m / 2) ∧ j < 2 * (n / 2)
      · rw [if_pos c, if_pos c, hq i j c.1 c.2]
        by_cases o : k % 2 = 1
        · rw [if_pos o, if_pos o, hf i (k - 1) hi (by omega), hg (k - 1) j (by omega) hj]
        · rw [if_neg o, if_neg o]
      · rw [if_neg c, if_neg c]
        exact dotN_congr (fun t ht => hf i t hi ht) (fun t ht => hg t j ht hj)
theorem Bad.of {m n : Nat} {F F' : Fn} (h : Bad m n F) (e : Eqv m n F F') : Bad m n F' := by
  obtain ⟨i, j, hi, hj, hb⟩ := h
  exact ⟨i, j, hi, hj, by rw [← e i j hi hj]; exact hb⟩
/-- the arena's words from u on are none of p's -/
def Fre (s u : Nat) (p : Prt) : Prop := p.S ≠ s ∨ ∀ i j, i < p.R → j < p.C → p.at i j < u
/-- what a product of p by q and q by r must do -/
def MulSpec (L : Nat → Nat → Prop) (X : Nat → Prop) (b0 g s n cut p q r : Nat) : Prop :=
  ∀ (c a b : Prt) (m : Nat → Nat → Nat) (W : World) (u h : Nat), St L X b0 g s n u h m W → c.ok L → a.ok L → b.ok L → c.R = p → c.C = r → a.R = p → a.C = q → b.R = q → b.C = r → X c.S → Dis a c → Dis b c → Fre s u a → Fre s u b → Fre s u c → u + needN p q r cut ≤ n →
    Calls Try.prog 55 #[.agg #[.pointer (some ⟨g, 0, none⟩), .int .i64 (cut : Int)], c.val, a.val, b.val] W fun e W' => ∃ (ok : Bool) (m' : Nat → Nat → Nat) (h' : Nat), e = .returned (.bool ok) ∧ St L X b0 g s n u h' m' W' ∧ (∀ S o, ¬ c.has S o → ¬ (S = s ∧ u ≤ o) → m' S o = m S o) ∧
      (ok = true → ∀ i j, i < p → j < r → c.get m' i j = sevN cut p q r (a.get m) (b.get m) i j) ∧ (ok = false → Bad p r (sevN cut p q r (a.get m) (b.get m))) ∧ h ≤ h' ∧ h' ≤ max h (u + needN p q r cut) ∧ Kq X g W W'
def setR (v : Nat → Fn) (o : Nat) (F : Fn) : Nat → Fn := fun x => if x = o then F else v x
/-- registers: Y's x-th part reads v x -/
def Env (Y : Nat → Prt) (m : Nat → Nat → Nat) (v : Nat → Fn) : Prop := ∀ x, x < 16 → Eqv (Y x).R (Y x).C ((Y x).get m) (v x)
/-- the registers are as they must be: shapes, apart, in c or in the arena from u to u4 -/
structure Regs (L : Nat → Nat → Prop) (X : Nat → Prop) (s u u4 p q r : Nat) (c : Prt) (Y : Nat → Prt) : Prop where
  ok : ∀ x, x < 16 → (Y x).ok L
  wr : ∀ x, 8 ≤ x → x < 16 → X (Y x).S
  dis : ∀ x o, x < 16 → 8 ≤ o → o < 16 → x ≠ o → Dis (Y x) (Y o)
  fre : ∀ x, x < 16 → Fre s u4 (Y x)
  sub : ∀ x S o, 8 ≤ x → x < 16 → (Y x).has S o → c.has S o ∨ (S = s ∧ u ≤ o)
  ra : ∀ x, x < 4 → (Y x).R = p ∧ (Y x).C = q
  rb : ∀ x, 4 ≤ x → x < 8 → (Y x).R = q ∧ (Y x).C = r
  rc : ∀ x, 8 ≤ x → x < 12 → (Y x).R = p ∧ (Y x).C = r
  rs : (Y 12).R = p ∧ (Y 12).C = q
  rt : (Y 13).R = q ∧ (Y 13).C = r
  ru : (Y 14).R = p ∧ (Y 14).C = r
  rp : (Y 15).R = p ∧ (Y 15).C = r
  pos : 0 < p ∧ 0 < q ∧ 0 < r
  le : u ≤ u4
/-- where sevenParts stands: from m0, W0 on -/
structure Sv (L : Nat → Nat → Prop) (X : Nat → Prop) (b0 g s n u u4 top : Nat) (c : Prt) (Y : Nat → Prt) (m0 : Nat → Nat → Nat) (h0 : Nat) (W0 : World) (v : Nat → Fn) (W : World) : Prop where
  ex : ∃ (m : Nat → Nat → Nat) (h : Nat), St L X b0 g s n u4 h m W ∧ Env Y m v ∧ (∀ S o, ¬ c.has S o → ¬ (S = s ∧ u ≤ o) → m S o = m0 S o) ∧ h0 ≤ h ∧ h ≤ max h0 top
  kq : Kq X g W0 W
section
variable {L : Nat → Nat → Prop} {X : Nat → Prop} {b0 g s n u u4 top cut p q r h0 : Nat} {c : Prt} {Y : Nat → Prt} {m0 : Nat → Nat → Nat} {W0 W : World} {v : Nat → Fn}
theorem Env.set {m m' : Nat → Nat → Nat} {o : Nat} {F : Fn} (hR : Regs L X s u u4 p q r c Y) (he : Env Y m v) (ho : 8 ≤ o ∧ o < 16) (hon : Only (Y o) m m') (hF : Eqv (Y o).R (Y o).C ((Y o).get m') F) : Env Y m' (setR v o F) := fun x hx => by
  unfold setR
  by_cases e : x = o
  · subst e; rw [if_pos rfl]; exact hF
  · rw [if_neg e]
    exact fun i j hi hj => (hon.get (hR.dis x o hx ho.1 ho.2 e) hi hj).trans (he x hx i j hi hj)
theorem Sv.behind {W' : World} (k : Sv L X b0 g s n u u4 top c Y m0 h0 W0 v W) (hb : Below W.heap.size W W') : Sv L X b0 g s n u u4 top c Y m0 h0 W0 v W' := by
  obtain ⟨⟨m, h, h1, h2, h3, h4, h5⟩, h6⟩ := k
  exact ⟨⟨m, h, h1.behind hb, h2, h3, h4, h5⟩, h6.below hb⟩
theorem svw_add (hR : Regs L X s u u4 p q r c Y) (k : Sv L X b0 g s n u u4 top c Y m0 h0 W0 v W) {o x y R C : Nat} (ho : 8 ≤ o ∧ o < 16) (hx : x < 16) (hy : y < 16) (s1 : (Y o).R = R ∧ (Y o).C = C) (s2 : (Y x).R = R ∧ (Y x).C = C) (s3 : (Y y).R = R ∧ (Y y).C = C) (hp : 0 < R ∧ 0 < C) :
    Calls Try.prog 101 #[(Y o).val, (Y x).val, (Y y).val] W fun e W' => e = .returned (.tuple #[]) ∧ Sv L X b0 g s n u u4 top c Y m0 h0 W0 (setR v o fun i j => plusU (v x i j) (v y i j)) W' := by
  obtain ⟨⟨m, h, h1, h2, h3, h4, h5⟩, h6⟩ := k
  refine (wi_add h1 (hR.ok o ho.2) (hR.ok x hx) (hR.ok y hy) s1.1 s1.2 s2.1 s2.2 s3.1 s3.2 hp.1 hp.2 (hR.wr o ho.1 ho.2) ?_ ?_).mono ?_
  · by_cases e : x = o
    · exact .inl (by rw [e])
    · exact .inr (hR.dis x o hx ho.1 ho.2 e)
  · by_cases e : y = o
    · exact .inl (by rw [e])
    · exact .inr (hR.dis y o hy ho.1 ho.2 e)
  · rintro e W' ⟨rfl, m', k1, k2, k3, k4⟩
    refine ⟨rfl, ⟨m', h, k1, h2.set hR ho k2 fun i j hi hj => ?_, fun S o' hc hs => ?_, h4, h5⟩, h6.trans k4⟩
    · rw [k3 i j (by omega) (by omega), h2 x hx i j (by omega) (by omega), h2 y hy i j (by omega) (by omega)]
    · rw [k2 S o' (fun hh => (hR.sub o S o' ho.1 ho.2 hh).elim hc hs), h3 S o' hc hs]
theorem svw_sub (hR : Regs L X s u u4 p q r c Y) (k : Sv L X b0 g s n u u4 top c Y m0 h0 W0 v W) {o x y R C : Nat} (ho : 8 ≤ o ∧ o < 16) (hx : x < 16) (hy : y < 16) (s1 : (Y o).R = R ∧ (Y o).C = C) (s2 : (Y x).R = R ∧ (Y x).C = C) (s3 : (Y y).R = R ∧ (Y y).C = C) (hp : 0 < R ∧ 0 < C) :
    Calls Try.prog 102 #[(Y o).val, (Y x).val, (Y y).val] W fun e W' => e = .returned (.tuple #[]) ∧ Sv L X b0 g s n u u4 top c Y m0 h0 W0 (setR v o fun i j => minusU (v x i j) (v y i j)) W' := by
  obtain ⟨⟨m, h, h1, h2, h3, h4, h5⟩, h6⟩ := k
  refine (wi_sub h1 (hR.ok o ho.2) (hR.ok x hx) (hR.ok y hy) s1.1 s1.2 s2.1 s2.2 s3.1 s3.2 hp.1 hp.2 (hR.wr o ho.1 ho.2) ?_ ?_).mono ?_
  · by_cases e : x = o
    · exact .inl (by rw [e])
    · exact .inr (hR.dis x o hx ho.1 ho.2 e)
  · by_cases e : y = o
    · exact .inl (by rw [e])
    · exact .inr (hR.dis y o hy ho.1 ho.2 e)
  · rintro e W' ⟨rfl, m', k1, k2, k3, k4⟩
    refine ⟨rfl, ⟨m', h, k1, h2.set hR ho k2 fun i j hi hj => ?_, fun S o' hc hs => ?_, h4, h5⟩, h6.trans k4⟩
    · rw [k3 i j (by omega) (by omega), h2 x hx i j (by omega) (by omega), h2 y hy i j (by omega) (by omega)]
    · rw [k2 S o' (fun hh => (hR.sub o S o' ho.1 ho.2 hh).elim hc hs), h3 S o' hc hs]
theorem svw_mul (hR : Regs L X s u u4 p q r c Y) (hM : MulSpec L X b0 g s n cut p q r) (hn : u4 + needN p q r cut ≤ n) (htop : u4 + needN p q r cut ≤ top) (k : Sv L X b0 g s n u u4 top c Y m0 h0 W0 v W) {o x y : Nat} (ho : 8 ≤ o ∧ o < 16) (hx : x < 16) (hy : y < 16) (ex : x ≠ o) (ey : y ≠ o) (s1 : (Y o).R = p ∧ (Y o).C = r) (s2 : (Y x).R = p ∧ (Y x).C = q) (s3 : (Y y).R = q ∧ (Y y).C = r) :
    Calls Try.prog 55 #[.agg #[.pointer (some ⟨g, 0, none⟩), .int .i64 (cut : Int)], (Y o).val, (Y x).val, (Y y).val] W fun e W' => ∃ (ok : Bool) (F : Fn), e = .returned (.bool ok) ∧ Sv L X b0 g s n u u4 top c Y m0 h0 W0 (setR v o F) W' ∧ (ok = true → F = sevN cut p q r (v x) (v y)) ∧ (ok = false → Bad p r (sevN cut p q r (v x) (v y))) := by
  obtain ⟨⟨m, h, h1, h2, h3, h4, h5⟩, h6⟩ := k
  have hxe : Eqv p q ((Y x).get m) (v x) := by have := h2 x hx; rw [s2.1, s2.2] at this; exact this
  have hye : Eqv q r ((Y y).get m) (v y) := by have := h2 y hy; rw [s3.1, s3.2] at this; exact this
  have hse := sevN_congr (cut := cut) p q r _ _ _ _ hxe hye
  refine (hM (Y o) (Y x) (Y y) m W u4 h h1 (hR.ok o ho.2) (hR.ok x hx) (hR.ok y hy) s1.1 s1.2 s2.1 s2.2 s3.1 s3.2 (hR.wr o ho.1 ho.2) (hR.dis x o hx ho.1 ho.2 ex) (hR.dis y o hy ho.1 ho.2 ey) (hR.fre x hx) (hR.fre y hy) (hR.fre o ho.2) hn).mono ?_
  rintro e W' ⟨ok, m', h', rfl, k1, k2, k3, k4, k5, k6, k7⟩
  have hkeep : ∀ z, z < 16 → z ≠ o → Eqv (Y z).R (Y z).C ((Y z).get m') (v z) := fun z hz ez i j hi hj => by
    rw [← h2 z hz i j hi hj]
    unfold Prt.get
    refine k2 _ _ ?_ ?_
    · rintro ⟨e1, a, b, ha, hb, e2⟩
      rcases hR.dis z o hz ho.1 ho.2 ez i j a b hi hj ha hb with d | d
      · exact d e1
      · exact d e2
    · rintro ⟨e1, e2⟩
      rcases hR.fre z hz with d | d
      · exact d e1
      · have := d i j hi hj; omega
  cases ok
  · refine ⟨false, (Y o).get m', rfl, ⟨⟨m', h', k1, fun z hz => ?_, fun S o' hc hs => ?_, by omega, by omega⟩, h6.trans k7⟩, (fun h => by cases h), fun _ => (k4 rfl).of hse⟩
    · unfold setR
      by_cases e : z = o
      · subst e; rw [if_pos rfl]; exact Eqv.refl _ _ _
      · rw [if_neg e]; exact hkeep z hz e
    · have := hR.le
      rw [k2 S o' (fun hh => (hR.sub o S o' ho.1 ho.2 hh).elim hc hs) (fun hh => hs ⟨hh.1, by omega⟩), h3 S o' hc hs]
  · refine ⟨true, sevN cut p q r (v x) (v y), rfl, ⟨⟨m', h', k1, fun z hz => ?_, fun S o' hc hs => ?_, by omega, by omega⟩, h6.trans k7⟩, fun _ => rfl, (fun h => by cases h)⟩
    · unfold setR
      by_cases e : z = o
      · subst e
        rw [if_pos rfl]
        intro i j hi hj
        rw [k3 rfl i j (by omega) (by omega)]
        exact hse i j (by omega) (by omega)
      · rw [if_neg e]; exact hkeep z hz e
    · have := hR.le
      rw [k2 S o' (fun hh => (hR.sub o S o' ho.1 ho.2 hh).elim hc hs) (fun hh => hs ⟨hh.1, by omega⟩), h3 S o' hc hs]
end
end Go.Proofs.Ytjapilpjahhimaa

/- winograd: sevenParts' registers, and what they hold step by step. -/
namespace Go.Proofs.Ytjapilpjahhimaa
open Go.RowKit Go.Shelf
theorem all16 {P : Nat → Prop} (h0 : P 0) (h1 : P 1) (h2 : P 2) (h3 : P 3) (h4 : P 4) (h5 : P 5) (h6 : P 6) (h7 : P 7) (h8 : P 8) (h9 : P 9) (h10 : P 10) (h11 : P 11) (h12 : P 12) (h13 : P 13) (h14 : P 14) (h15 : P 15) : ∀ x, x < 16 → P x
  | 0, _ => h0 | 1, _ => h1 | 2, _ => h2 | 3, _ => h3 | 4, _ => h4 | 5, _ => h5 | 6, _ => h6 | 7, _ => h7 | 8, _ => h8 | 9, _ => h9 | 10, _ => h10 | 11, _ => h11 | 12, _ => h12 | 13, _ => h13 | 14, _ => h14 | 15, _ => h15
  | n + 16, h => absurd h (by omega)
theorem lt4 {x : Nat} (h : x < 4) : x = 0 ∨ x = 1 ∨ x = 2 ∨ x = 3 := by omega
/-- a part of the arena -/
def arP (s u P r c : Nat) : Prt := Prt.mk s u P P 0 r c c
theorem arP_at {s u P r c i j : Nat} (hP : r * c = P) (hi : i < r) (hj : j < c) : u ≤ (arP s u P r c).at i j ∧ (arP s u P r c).at i j < u + P := by
  have := row_step (T := c) hi
  show u ≤ u + (0 + i * c + j) ∧ u + (0 + i * c + j) < u + P
  omega
theorem arP_ok {L : Nat → Nat → Prop} {s u P r c : Nat} (hP : r * c = P) (hr : r ≤ 64) (hc : c ≤ 64) (hl : ∀ o, u ≤ o → o < u + P → L s o) : (arP s u P r c).ok L := by
  have h1 : r * c ≤ 64 * 64 := Nat.mul_le_mul hr hc
  refine ⟨hr, hc, Nat.le_refl _, hc, Nat.zero_le _, Nat.le_refl _, by show P ≤ 1048576; omega, fun h0 _ => ?_, fun i j hi hj => ?_⟩
  · show 0 + (r - 1) * c + c ≤ P
    have h0' : 0 < r := h0
    have := row_step (T := c) (show r - 1 < r by omega)
    omega
  · have h := arP_at (s := s) (u := u) hP hi hj
    exact hl _ h.1 h.2
theorem fre_dis {s u P r c u0 : Nat} {p : Prt} (hP : r * c = P) (h : Fre s u0 p) (hu : u0 ≤ u) : Dis p (arP s u P r c) := fun i j i' j' h1 h2 h3 h4 => by
  rcases h with h | h
  · exact .inl h
  · have a := h i j h1 h2
    have b := (arP_at (s := s) (u := u) hP h3 h4).1
    exact .inr (by omega)
theorem ar_dis {s u P r c u' P' r' c' : Nat} (hP : r * c = P) (hP' : r' * c' = P') (h : u + P ≤ u') : Dis (arP s u P r c) (arP s u' P' r' c') := fun i j i' j' h1 h2 h3 h4 => by
  have a := (arP_at (s := s) (u := u) hP h1 h2).2
  have b := (arP_at (s := s) (u := u') hP' h3 h4).1
  exact .inr (by omega)
theorem fre_blk {s u i j r c : Nat} {p : Prt} (h : Fre s u p) (hi : i + r ≤ p.R) (hj : j + c ≤ p.C) : Fre s u (p.blk i j r c) := h.imp id fun h a b ha hb => by
  have ha' : a < r := ha
  have hb' : b < c := hb
  rw [Prt.blk_at]
  exact h _ _ (by omega) (by omega)
theorem fre_up {s u u' : Nat} {p : Prt} (h : Fre s u p) (hu : u ≤ u') : Fre s u' p := h.imp id fun h a b ha hb => Nat.lt_of_lt_of_le (h a b ha hb) hu
theorem blk_has {p : Prt} {i j r c S o : Nat} (h : (p.blk i j r c).has S o) (hi : i + r ≤ p.R) (hj : j + c ≤ p.C) : p.has S o := by
  obtain ⟨e, a, b, ha, hb, eo⟩ := h
  have ha' : a < r := ha
  have hb' : b < c := hb
  exact ⟨e, i + a, j + b, by omega, by omega, by rw [eo, Prt.blk_at]⟩
def regY (A B C : Prt) (s u p q r PS PT PU : Nat) : Nat → Prt
  | 0 => A.blk 0 0 p q | 1 => A.blk 0 q p q | 2 => A.blk p 0 p q | 3 => A.blk p q p q
  | 4 => B.blk 0 0 q r | 5 => B.blk 0 r q r | 6 => B.blk q 0 q r | 7 => B.blk q r q r
  | 8 => C.blk 0 0 p r | 9 => C.blk 0 r p r | 10 => C.blk p 0 p r | 11 => C.blk p r p r
  | 12 => arP s u PS p q | 13 => arP s (u + PS) PT q r | 14 => arP s (u + PS + PT) PU p r | _ => arP s (u + PS + PT + PU) PU p r
section
variable {L : Nat → Nat → Prop} {X : Nat → Prop} {A B C : Prt} {s u n p q r PS PT PU : Nat}
theorem regs_of (hA : A.ok L) (hB : B.ok L) (hC : C.ok L) (ra : A.R = 2 * p ∧ A.C = 2 * q) (rb : B.R = 2 * q ∧ B.C = 2 * r) (rc : C.R = 2 * p ∧ C.C = 2 * r) (hp : 0 < p) (hq : 0 < q) (hr : 0 < r) (eS : p * q = PS) (eT : q * r = PT) (eU : p * r = PU)
    (hX : X C.S) (hXs : X s) (dA : Dis A C) (dB : Dis B C) (fA : Fre s u A) (fB : Fre s u B) (fC : Fre s u C) (hL : ∀ o, o < n → L s o) (hu : u + PS + PT + PU + PU ≤ n) :
    Regs L X s u (u + PS + PT + PU + PU) p q r C (regY A B C s u p q r PS PT PU) := by
  have p64 : p ≤ 64 := by have := hC.r; omega
  have q64 : q ≤ 64 := by have := hA.c; omega
  have r64 : r ≤ 64 := by have := hC.c; omega
  have oS : (arP s u PS p q).ok L := arP_ok eS p64 q64 fun o _ h => hL o (by omega)
  have oT : (arP s (u + PS) PT q r).ok L := arP_ok eT q64 r64 fun o _ h => hL o (by omega)
  have oU : (arP s (u + PS + PT) PU p r).ok L := arP_ok eU p64 r64 fun o _ h => hL o (by omega)
  have oP : (arP s (u + PS + PT + PU) PU p r).ok L := arP_ok eU p64 r64 fun o _ h => hL o (by omega)
  have blA : ∀ i j, (i = 0 ∨ i = p) → (j = 0 ∨ j = q) → i + p ≤ A.R ∧ j + q ≤ A.C := fun i j hi hj => by omega
  have blB : ∀ i j, (i = 0 ∨ i = q) → (j = 0 ∨ j = r) → i + q ≤ B.R ∧ j + r ≤ B.C := fun i j hi hj => by omega
  have blC : ∀ i j, (i = 0 ∨ i = p) → (j = 0 ∨ j = r) → i + p ≤ C.R ∧ j + r ≤ C.C := fun i j hi hj => by omega
  have okA : ∀ i j, (i = 0 ∨ i = p) → (j = 0 ∨ j = q) → (A.blk i j p q).ok L := fun i j hi hj => hA.blk (blA i j hi hj).1 (blA i j hi hj).2 (by omega) (by omega)
  have okB : ∀ i j, (i = 0 ∨ i = q) → (j = 0 ∨ j = r) → (B.blk i j q r).ok L := fun i j hi hj => hB.blk (blB i j hi hj).1 (blB i j hi hj).2 (by omega) (by omega)
  have okC : ∀ i j, (i = 0 ∨ i = p) → (j = 0 ∨ j = r) → (C.blk i j p r).ok L := fun i j hi hj => hC.blk (blC i j hi hj).1 (blC i j hi hj).2 (by omega) (by omega)
  have frA : ∀ i j, (i = 0 ∨ i = p) → (j = 0 ∨ j = q) → Fre s u (A.blk i j p q) := fun i j hi hj => fre_blk fA (blA i j hi hj).1 (blA i j hi hj).2
  have frB : ∀ i j, (i = 0 ∨ i = q) → (j = 0 ∨ j = r) → Fre s u (B.blk i j q r) := fun i j hi hj => fre_blk fB (blB i j hi hj).1 (blB i j hi hj).2
  have frC : ∀ i j, (i = 0 ∨ i = p) → (j = 0 ∨ j = r) → Fre s u (C.blk i j p r) := fun i j hi hj => fre_blk fC (blC i j hi hj).1 (blC i j hi hj).2
  have dAC : ∀ i j i' j', (i = 0 ∨ i = p) → (j = 0 ∨ j = q) → (i' = 0 ∨ i' = p) → (j' = 0 ∨ j' = r) → Dis (A.blk i j p q) (C.blk i' j' p r) := fun i j i' j' h1 h2 h3 h4 => (dA.blk (blA i j h1 h2).1 (blA i j h1 h2).2).blk2 (blC i' j' h3 h4).1 (blC i' j' h3 h4).2
  have dBC : ∀ i j i' j', (i = 0 ∨ i = q) → (j = 0 ∨ j = r) → (i' = 0 ∨ i' = p) → (j' = 0 ∨ j' = r) → Dis (B.blk i j q r) (C.blk i' j' p r) := fun i j i' j' h1 h2 h3 h4 => (dB.blk (blB i j h1 h2).1 (blB i j h1 h2).2).blk2 (blC i' j' h3 h4).1 (blC i' j' h3 h4).2
  have dCC : ∀ i j i' j', (i = 0 ∨ i = p) → (j = 0 ∨ j = r) → (i' = 0 ∨ i' = p) → (j' = 0 ∨ j' = r) → (i ≠ i' ∨ j ≠ j') → Dis (C.blk i j p r) (C.blk i' j' p r) := fun i j i' j' h1 h2 h3 h4 h5 => blk_dis hC (blC i j h1 h2).2 (blC i' j' h3 h4).2 (by omega)
  have z : ∀ n : Nat, (0 = 0 ∨ 0 = n) := fun _ => .inl rfl
  have f : ∀ n : Nat, (n = 0 ∨ n = n) := fun _ => .inr rfl
  -- what a part is apart from the arena's four
  have dAr : ∀ P : Prt, Fre s u P → Dis P (arP s u PS p q) ∧ Dis P (arP s (u + PS) PT q r) ∧ Dis P (arP s (u + PS + PT) PU p r) ∧ Dis P (arP s (u + PS + PT + PU) PU p r) := fun P h =>
    ⟨fre_dis eS h (by omega), fre_dis eT h (by omega), fre_dis eU h (by omega), fre_dis eU h (by omega)⟩
  have gen : ∀ P : Prt, Fre s u P → (∀ i j, (i = 0 ∨ i = p) → (j = 0 ∨ j = r) → Dis P (C.blk i j p r)) → ∀ o, 8 ≤ o → o < 16 → Dis P (regY A B C s u p q r PS PT PU o) := fun P h1 h2 o h8 h16 => by
    rcases (show o = 8 ∨ o = 9 ∨ o = 10 ∨ o = 11 ∨ o = 12 ∨ o = 13 ∨ o = 14 ∨ o = 15 by omega) with rfl | rfl | rfl | rfl | rfl | rfl | rfl | rfl
    · exact h2 0 0 (z _) (z _)
    · exact h2 0 r (z _) (f _)
    · exact h2 p 0 (f _) (z _)
    · exact h2 p r (f _) (f _)
    · exact (dAr P h1).1
    · exact (dAr P h1).2.1
    · exact (dAr P h1).2.2.1
    · exact (dAr P h1).2.2.2
  have cq : ∀ x o, 8 ≤ x → x < 12 → 8 ≤ o → o < 12 → x ≠ o → Dis (regY A B C s u p q r PS PT PU x) (regY A B C s u p q r PS PT PU o) := fun x o h1 h2 h3 h4 hne => by
    rcases (show x = 8 ∨ x = 9 ∨ x = 10 ∨ x = 11 by omega) with rfl | rfl | rfl | rfl <;> rcases (show o = 8 ∨ o = 9 ∨ o = 10 ∨ o = 11 by omega) with rfl | rfl | rfl | rfl
    · exact absurd rfl hne
    · exact dCC 0 0 0 r (z _) (z _) (z _) (f _) (by omega)
    · exact dCC 0 0 p 0 (z _) (z _) (f _) (z _) (by omega)
    · exact dCC 0 0 p r (z _) (z _) (f _) (f _) (by omega)
    · exact dCC 0 r 0 0 (z _) (f _) (z _) (z _) (by omega)
    · exact absurd rfl hne
    · exact dCC 0 r p 0 (z _) (f _) (f _) (z _) (by omega)
    · exact dCC 0 r p r (z _) (f _) (f _) (f _) (by omega)
    · exact dCC p 0 0 0 (f _) (z _) (z _) (z _) (by omega)
    · exact dCC p 0 0 r (f _) (z _) (z _) (f _) (by omega)
    · exact absurd rfl hne
    · exact dCC p 0 p r (f _) (z _) (f _) (f _) (by omega)
    · exact dCC p r 0 0 (f _) (f _) (z _) (z _) (by omega)
    · exact dCC p r 0 r (f _) (f _) (z _) (f _) (by omega)
    · exact dCC p r p 0 (f _) (f _) (f _) (z _) (by omega)
    · exact absurd rfl hne
  have ca : ∀ x o, 8 ≤ x → x < 12 → 12 ≤ o → o < 16 → Dis (regY A B C s u p q r PS PT PU x) (regY A B C s u p q r PS PT PU o) := fun x o h1 h2 h3 h4 => by
    have hf : Fre s u (regY A B C s u p q r PS PT PU x) := by
      rcases (show x = 8 ∨ x = 9 ∨ x = 10 ∨ x = 11 by omega) with rfl | rfl | rfl | rfl
      · exact frC 0 0 (z _) (z _)
      · exact frC 0 r (z _) (f _)
      · exact frC p 0 (f _) (z _)
      · exact frC p r (f _) (f _)
    have := dAr _ hf
    rcases (show o = 12 ∨ o = 13 ∨ o = 14 ∨ o = 15 by omega) with rfl | rfl | rfl | rfl
    · exact this.1
    · exact this.2.1
    · exact this.2.2.1
    · exact this.2.2.2
  have aa : ∀ x o, 12 ≤ x → x < o → o < 16 → Dis (regY A B C s u p q r PS PT PU x) (regY A B C s u p q r PS PT PU o) := fun x o h1 h2 h3 => by
    rcases (show (x = 12 ∧ o = 13) ∨ (x = 12 ∧ o = 14) ∨ (x = 12 ∧ o = 15) ∨ (x = 13 ∧ o = 14) ∨ (x = 13 ∧ o = 15) ∨ (x = 14 ∧ o = 15) by omega) with ⟨rfl, rfl⟩ | ⟨rfl, rfl⟩ | ⟨rfl, rfl⟩ | ⟨rfl, rfl⟩ | ⟨rfl, rfl⟩ | ⟨rfl, rfl⟩
    · exact ar_dis eS eT (by omega)
    · exact ar_dis eS eU (by omega)
    · exact ar_dis eS eU (by omega)
    · exact ar_dis eT eU (by omega)
    · exact ar_dis eT eU (by omega)
    · exact ar_dis eU eU (by omega)
  refine ⟨all16 (okA 0 0 (z _) (z _)) (okA 0 q (z _) (f _)) (okA p 0 (f _) (z _)) (okA p q (f _) (f _)) (okB 0 0 (z _) (z _)) (okB 0 r (z _) (f _)) (okB q 0 (f _) (z _)) (okB q r (f _) (f _)) (okC 0 0 (z _) (z _)) (okC 0 r (z _) (f _)) (okC p 0 (f _) (z _)) (okC p r (f _) (f _)) oS oT oU oP, ?_, ?_, ?_, ?_, ?_, ?_, ?_, ⟨rfl, rfl⟩, ⟨rfl, rfl⟩, ⟨rfl, rfl⟩, ⟨rfl, rfl⟩, ⟨hp, hq, hr⟩, by omega⟩
  · intro x h1 h2
    rcases (show x = 8 ∨ x = 9 ∨ x = 10 ∨ x = 11 ∨ x = 12 ∨ x = 13 ∨ x = 14 ∨ x = 15 by omega) with rfl | rfl | rfl | rfl | rfl | rfl | rfl | rfl
    all_goals first | exact hX | exact hXs
  · intro x o hx h8 h16 hne
    by_cases c1 : x < 4
    · rcases lt4 c1 with rfl | rfl | rfl | rfl
      · exact gen _ (frA 0 0 (z _) (z _)) (fun i j hi hj => dAC _ _ _ _ (z _) (z _) hi hj) o h8 h16
      · exact gen _ (frA 0 q (z _) (f _)) (fun i j hi hj => dAC _ _ _ _ (z _) (f _) hi hj) o h8 h16
      · exact gen _ (frA p 0 (f _) (z _)) (fun i j hi hj => dAC _ _ _ _ (f _) (z _) hi hj) o h8 h16
      · exact gen _ (frA p q (f _) (f _)) (fun i j hi hj => dAC _ _ _ _ (f _) (f _) hi hj) o h8 h16
    · by_cases c2 : x < 8
      · rcases (show x = 4 ∨ x = 5 ∨ x = 6 ∨ x = 7 by omega) with rfl | rfl | rfl | rfl
        · exact gen _ (frB 0 0 (z _) (z _)) (fun i j hi hj => dBC _ _ _ _ (z _) (z _) hi hj) o h8 h16
        · exact gen _ (frB 0 r (z _) (f _)) (fun i j hi hj => dBC _ _ _ _ (z _) (f _) hi hj) o h8 h16
        · exact gen _ (frB q 0 (f _) (z _)) (fun i j hi hj => dBC _ _ _ _ (f _) (z _) hi hj) o h8 h16
        · exact gen _ (frB q r (f _) (f _)) (fun i j hi hj => dBC _ _ _ _ (f _) (f _) hi hj) o h8 h16
      · by_cases c3 : x < 12
        · by_cases c4 : o < 12
          · exact cq x o (by omega) c3 h8 c4 hne
          · exact ca x o (by omega) c3 (by omega) h16
        · by_cases c4 : o < 12
          · exact (ca o x h8 c4 (by omega) hx).symm
          · rcases Nat.lt_or_gt_of_ne hne with h | h
            · exact aa x o (by omega) h h16
            · exact (aa o x (by omega) h hx).symm
  · have u1 : u ≤ u + PS + PT + PU + PU := by omega
    have arF : ∀ {v P a b : Nat}, a * b = P → v + P ≤ u + PS + PT + PU + PU → Fre s (u + PS + PT + PU + PU) (arP s v P a b) := fun hP hv => .inr fun i j hi hj => Nat.lt_of_lt_of_le (arP_at (s := s) hP hi hj).2 hv
    exact all16 (fre_up (frA 0 0 (z _) (z _)) u1) (fre_up (frA 0 q (z _) (f _)) u1) (fre_up (frA p 0 (f _) (z _)) u1) (fre_up (frA p q (f _) (f _)) u1) (fre_up (frB 0 0 (z _) (z _)) u1) (fre_up (frB 0 r (z _) (f _)) u1) (fre_up (frB q 0 (f _) (z _)) u1) (fre_up (frB q r (f _) (f _)) u1) (fre_up (frC 0 0 (z _) (z _)) u1) (fre_up (frC 0 r (z _) (f _)) u1) (fre_up (frC p 0 (f _) (z _)) u1) (fre_up (frC p r (f _) (f _)) u1) (arF eS (by omega)) (arF eT (by omega)) (arF eU (by omega)) (arF eU (by omega))
  · intro x S o h8 h16 hh
    have arH : ∀ {v P a b : Nat}, a * b = P → u ≤ v → (arP s v P a b).has S o → S = s ∧ u ≤ o := fun {v P a b} hP hv ⟨e, i, j, hi, hj, eo⟩ => ⟨e, by have := (arP_at (s := s) (u := v) (r := a) (c := b) hP hi hj).1; omega⟩
    rcases (show x = 8 ∨ x = 9 ∨ x = 10 ∨ x = 11 ∨ x = 12 ∨ x = 13 ∨ x = 14 ∨ x = 15 by omega) with rfl | rfl | rfl | rfl | rfl | rfl | rfl | rfl
    · exact .inl (blk_has hh (blC 0 0 (z _) (z _)).1 (blC 0 0 (z _) (z _)).2)
    · exact .inl (blk_has hh (blC 0 r (z _) (f _)).1 (blC 0 r (z _) (f _)).2)
    · exact .inl (blk_has hh (blC p 0 (f _) (z _)).1 (blC p 0 (f _) (z _)).2)
    · exact .inl (blk_has hh (blC p r (f _) (f _)).1 (blC p r (f _) (f _)).2)
    · exact .inr (arH eS (by omega) hh)
    · exact .inr (arH eT (by omega) hh)
    · exact .inr (arH eU (by omega) hh)
    · exact .inr (arH eU (by omega) hh)
  · intro x hx
    rcases lt4 hx with rfl | rfl | rfl | rfl <;> exact ⟨rfl, rfl⟩
  · intro x h4 h8
    rcases (show x = 4 ∨ x = 5 ∨ x = 6 ∨ x = 7 by omega) with rfl | rfl | rfl | rfl <;> exact ⟨rfl, rfl⟩
  · intro x h4 h8
    rcases (show x = 8 ∨ x = 9 ∨ x = 10 ∨ x = 11 by omega) with rfl | rfl | rfl | rfl <;> exact ⟨rfl, rfl⟩
end
/-- the registers at the beginning -/
def v0R (p q r : Nat) (f g : Fn) (z : Nat → Fn) : Nat → Fn
  | 0 => f | 1 => fun i j => f i (q + j) | 2 => fun i j => f (p + i) j | 3 => fun i j => f (p + i) (q + j)
  | 4 => g | 5 => fun i j => g i (r + j) | 6 => fun i j => g (q + i) j | 7 => fun i j => g (q + i) (r + j)
  | x => z x
def addR (v : Nat → Fn) (o x y : Nat) : Nat → Fn := setR v o fun i j => plusU (v x i j) (v y i j)
def subR (v : Nat → Fn) (o x y : Nat) : Nat → Fn := setR v o fun i j => minusU (v x i j) (v y i j)
def mulR (rec : Fn → Fn → Fn) (v : Nat → Fn) (o x y : Nat) : Nat → Fn := setR v o (rec (v x) (v y))
/-- the registers, stage by stage -/
def stR (rec : Fn → Fn → Fn) (V : Nat → Fn) : Nat → Nat → Fn
  | 0 => addR V 12 2 3
  | 1 => subR V 13 5 4
  | 2 => mulR rec V 11 12 13
  | 3 => subR V 12 12 0
  | 4 => subR V 13 7 13
  | 5 => mulR rec V 9 12 13
  | 6 => mulR rec V 8 0 4
  | 7 => addR V 14 8 9
  | 8 => mulR rec V 15 1 6
  | 9 => addR V 8 8 15
  | 10 => subR V 12 1 12
  | 11 => subR V 13 13 6
  | 12 => mulR rec V 15 12 7
  | 13 => addR V 9 14 11
  | 14 => addR V 9 9 15
  | 15 => mulR rec V 10 3 13
  | 16 => subR V 12 0 2
  | 17 => subR V 13 7 5
  | 18 => mulR rec V 15 12 13
  | 19 => addR V 14 14 15
  | 20 => subR V 10 14 10
  | _ => addR V 11 14 11
def sgR (rec : Fn → Fn → Fn) (p q r : Nat) (f g : Fn) (z : Nat → Fn) : Nat → Nat → Fn
  | 0 => v0R p q r f g z
  | k + 1 => stR rec (sgR rec p q r f g z k) k
section
variable {rec : Fn → Fn → Fn} {p q r : Nat} {f g : Fn} {z : Nat → Fn}
theorem sg_end : sgR rec p q r f g z 22 8 = bl (pr rec p q r f g) 1 ∧ sgR rec p q r f g z 22 9 = bl (pr rec p q r f g) 2 ∧ sgR rec p q r f g z 22 10 = bl (pr rec p q r f g) 3 ∧ sgR rec p q r f g z 22 11 = bl (pr rec p q r f g) 4 := ⟨rfl, rfl, rfl, rfl⟩
theorem sg_pr : rec (sgR rec p q r f g z 2 12) (sgR rec p q r f g z 2 13) = pr rec p q r f g 5 ∧ rec (sgR rec p q r f g z 5 12) (sgR rec p q r f g z 5 13) = pr rec p q r f g 6 ∧ rec (sgR rec p q r f g z 6 0) (sgR rec p q r f g z 6 4) = pr rec p q r f g 1 ∧ rec (sgR rec p q r f g z 8 1) (sgR rec p q r f g z 8 6) = pr rec p q r f g 2 ∧
    rec (sgR rec p q r f g z 12 12) (sgR rec p q r f g z 12 7) = pr rec p q r f g 3 ∧ rec (sgR rec p q r f g z 15 3) (sgR rec p q r f g z 15 13) = pr rec p q r f g 4 ∧ rec (sgR rec p q r f g z 18 12) (sgR rec p q r f g z 18 13) = pr rec p q r f g 7 := ⟨rfl, rfl, rfl, rfl, rfl, rfl, rfl⟩
end
/-- where sevenParts stands, as long as all went well -/
def Zt (L : Nat → Nat → Prop) (X : Nat → Prop) (b0 g s n u u4 top : Nat) (c : Prt) (Y : Nat → Prt) (m0 : Nat → Nat → Nat) (h0 : Nat) (W0 : World) (BAD : Prop) (ok : Bool) (V : Nat → Fn) (W : World) : Prop :=
  ∃ v, Sv L X b0 g s n u u4 top c Y m0 h0 W0 v W ∧ (ok = true → v = V) ∧ (ok = false → BAD)
section
variable {L : Nat → Nat → Prop} {X : Nat → Prop} {b0 g s n u u4 top cut p q r h0 : Nat} {c : Prt} {Y : Nat → Prt} {m0 : Nat → Nat → Nat} {W0 W : World} {V V' : Nat → Fn} {BAD : Prop} {ok : Bool}
theorem Zt.kq (k : Zt L X b0 g s n u u4 top c Y m0 h0 W0 BAD ok V W) : Kq X g W0 W := k.choose_spec.1.kq
theorem Zt.off (k : Zt L X b0 g s n u u4 top c Y m0 h0 W0 BAD false V W) (V' : Nat → Fn) : Zt L X b0 g s n u u4 top c Y m0 h0 W0 BAD false V' W := by
  obtain ⟨v, h1, _, h2⟩ := k
  exact ⟨v, h1, (fun h => by cases h), h2⟩
theorem zt_add (hR : Regs L X s u u4 p q r c Y) (k : Zt L X b0 g s n u u4 top c Y m0 h0 W0 BAD ok V W) (o x y : Nat) {R C : Nat} (ho : 8 ≤ o ∧ o < 16) (hx : x < 16) (hy : y < 16) (s1 : (Y o).R = R ∧ (Y o).C = C) (s2 : (Y x).R = R ∧ (Y x).C = C) (s3 : (Y y).R = R ∧ (Y y).C = C) (hp : 0 < R ∧ 0 < C)
    {vo vx vy : Value} (e1 : (Y o).val = vo) (e2 : (Y x).val = vx) (e3 : (Y y).val = vy) (hV : V' = addR V o x y) :
    Calls Try.prog 101 #[vo, vx, vy] W fun e W' => e = .returned (.tuple #[]) ∧ Zt L X b0 g s n u u4 top c Y m0 h0 W0 BAD ok V' W' := by
  obtain ⟨v, h1, h2, h3⟩ := k
  rw [← e1, ← e2, ← e3]
  refine (svw_add hR h1 ho hx hy s1 s2 s3 hp).mono ?_
  rintro e W' ⟨rfl, k1⟩
  exact ⟨rfl, _, k1, (fun h => by rw [hV, ← h2 h]; rfl), h3⟩
theorem zt_sub (hR : Regs L X s u u4 p q r c Y) (k : Zt L X b0 g s n u u4 top c Y m0 h0 W0 BAD ok V W) (o x y : Nat) {R C : Nat} (ho : 8 ≤ o ∧ o < 16) (hx : x < 16) (hy : y < 16) (s1 : (Y o).R = R ∧ (Y o).C = C) (s2 : (Y x).R = R ∧ (Y x).C = C) (s3 : (Y y).R = R ∧ (Y y).C = C) (hp : 0 < R ∧ 0 < C)
    {vo vx vy : Value} (e1 : (Y o).val = vo) (e2 : (Y x).val = vx) (e3 : (Y y).val = vy) (hV : V' = subR V o x y) :
    Calls Try.prog 102 #[vo, vx, vy] W fun e W' => e = .returned (.tuple #[]) ∧ Zt L X b0 g s n u u4 top c Y m0 h0 W0 BAD ok V' W' := by
  obtain ⟨v, h1, h2, h3⟩ := k
  rw [← e1, ← e2, ← e3]
  refine (svw_sub hR h1 ho hx hy s1 s2 s3 hp).mono ?_
  rintro e W' ⟨rfl, k1⟩
  exact ⟨rfl, _, k1, (fun h => by rw [hV, ← h2 h]; rfl), h3⟩
theorem zt_mul (hR : Regs L X s u u4 p q r c Y) (hM : MulSpec L X b0 g s n cut p q r) (hn : u4 + needN p q r cut ≤ n) (htop : u4 + needN p q r cut ≤ top) (k : Zt L X b0 g s n u u4 top c Y m0 h0 W0 BAD true V W) (o x y : Nat) (ho : 8 ≤ o ∧ o < 16) (hx : x < 16) (hy : y < 16) (ex : x ≠ o) (ey : y ≠ o)
    (s1 : (Y o).R = p ∧ (Y o).C = r) (s2 : (Y x).R = p ∧ (Y x).C = q) (s3 : (Y y).R = q ∧ (Y y).C = r) {vo vx vy : Value} (e1 : (Y o).val = vo) (e2 : (Y x).val = vx) (e3 : (Y y).val = vy) (hV : V' = mulR (sevN cut p q r) V o x y) (hB : Bad p r (sevN cut p q r (V x) (V y)) → BAD) :
    Calls Try.prog 55 #[.agg #[.pointer (some ⟨g, 0, none⟩), .int .i64 (cut : Int)], vo, vx, vy] W fun e W' => ∃ ok' : Bool, e = .returned (.bool ok') ∧ Zt L X b0 g s n u u4 top c Y m0 h0 W0 BAD ok' V' W' := by
  obtain ⟨v, h1, h2, -⟩ := k
  obtain rfl := h2 rfl
  rw [← e1, ← e2, ← e3]
  refine (svw_mul hR hM hn htop h1 ho hx hy ex ey s1 s2 s3).mono ?_
  rintro e W' ⟨ok', F, rfl, k1, k2, k3⟩
  exact ⟨ok', rfl, _, k1, (fun h => by rw [hV, k2 h]; rfl), fun h => hB (k3 h)⟩
end
section
variable {L : Nat → Nat → Prop} {X : Nat → Prop} {b g s n u u' h : Nat} {m : Nat → Nat → Nat} {W W' : World} {ws : List Nat}
theorem St.rel (k : St L X b g s n u h m W) (A : AN b W g s n u h ws) (A' : AN b W' g s n u' h ws) (hk : Kp g s W W') : St L X b g s n u' h m W' := by
  refine ⟨⟨fun S o hl => ?_, k.me.lw, fun S hS => ?_, fun S o hl => Nat.lt_of_lt_of_le (k.me.lt S o hl) hk.size⟩, ⟨_, A'⟩, k.gx⟩
  · by_cases e : S = s
    · subst e
      have h1 := k.me.rd _ _ hl
      have h2 := cells_at A.row o
      have h3 := cells_at A'.row o
      rw [h3, ← h2, h1]
    · have h0 := k.me.rd S o hl
      have hh := hk.keep S (k.me.lt S o hl) (k.lg hl) e
      have hcell : W'.cell? ⟨S, o, none⟩ = W.cell? ⟨S, o, none⟩ := by simp only [World.cell?]; rw [hh]
      rw [hcell, h0]
  · by_cases e : S = s
    · subst e; exact ⟨_, A'.row⟩
    · obtain ⟨c, hw⟩ := k.me.wb S hS
      exact ⟨c, (hk.keep S (Wb.lt ⟨c, hw⟩) (k.gx S hS) e).trans hw⟩
theorem wi_release (k : St L X b g s n u h m W) (hX : X s) (hu : u' ≤ u) : Calls Try.prog 53 #[.pointer (some ⟨g, 0, none⟩), .int .i64 (u' : Int)] W fun e W' => e = .returned (.int .i64 0) ∧ St L X b g s n u' h m W' ∧ Kq X g W W' := by
  obtain ⟨ws, A⟩ := k.an
  refine (ar_release A hu).mono ?_
  rintro e W' ⟨rfl, A', hk, hb⟩
  exact ⟨rfl, k.rel A A' hk, (Kq.refl X g W).trans ⟨hk.size, fun j hj h1 h2 => hk.keep j hj h2 (fun e => h1 (by rw [e]; exact hX)), Io.of hb⟩⟩
end
section
variable {A B C : Prt} {s u p q r PS PT PU : Nat} {m m6 : Nat → Nat → Nat}
theorem fre_get {P : Prt} (h : Fre s u P) (hm : ∀ S o, ¬ (S = s ∧ u ≤ o) → m6 S o = m S o) {i j : Nat} (hi : i < P.R) (hj : j < P.C) : P.get m6 i j = P.get m i j := by
  unfold Prt.get
  refine hm _ _ ?_
  rintro ⟨e1, e2⟩
  rcases h with h | h
  · exact h e1
  · have := h i j hi hj
    omega
theorem clM_else {u' P S o : Nat} (h : ¬ (S = s ∧ u ≤ o)) (hu : u ≤ u') : clM m s u' P S o = m S o := by
  unfold clM
  rw [if_neg (fun ⟨e, h1, _⟩ => h ⟨e, by omega⟩)]
theorem env0 (ra : A.R = 2 * p ∧ A.C = 2 * q) (rb : B.R = 2 * q ∧ B.C = 2 * r) (fA : Fre s u A) (fB : Fre s u B) (hm : ∀ S o, ¬ (S = s ∧ u ≤ o) → m6 S o = m S o) :
    Env (regY A B C s u p q r PS PT PU) m6 (v0R p q r (A.get m) (B.get m) fun x => (regY A B C s u p q r PS PT PU x).get m6) := by
  have gA : ∀ i j, (i = 0 ∨ i = p) → (j = 0 ∨ j = q) → Eqv p q ((A.blk i j p q).get m6) fun a b => A.get m (i + a) (j + b) := fun i j hi hj a b ha hb => by
    rw [Prt.blk_get]
    exact fre_get fA hm (by omega) (by omega)
  have gB : ∀ i j, (i = 0 ∨ i = q) → (j = 0 ∨ j = r) → Eqv q r ((B.blk i j q r).get m6) fun a b => B.get m (i + a) (j + b) := fun i j hi hj a b ha hb => by
    rw [Prt.blk_get]
    exact fre_get fB hm (by omega) (by omega)
  have n0 : ∀ F : Fn, (fun a b => F (0 + a) (0 + b)) = F := fun F => by funext a b; rw [Nat.zero_add, Nat.zero_add]
  have n1 : ∀ (F : Fn) (k : Nat), (fun a b => F (0 + a) (k + b)) = fun a b => F a (k + b) := fun F k => by funext a b; rw [Nat.zero_add]
  have n2 : ∀ (F : Fn) (k : Nat), (fun a b => F (k + a) (0 + b)) = fun a b => F (k + a) b := fun F k => by funext a b; rw [Nat.zero_add]
  refine all16 ?_ ?_ ?_ ?_ ?_ ?_ ?_ ?_ (Eqv.refl _ _ _) (Eqv.refl _ _ _) (Eqv.refl _ _ _) (Eqv.refl _ _ _) (Eqv.refl _ _ _) (Eqv.refl _ _ _) (Eqv.refl _ _ _) (Eqv.refl _ _ _)
  · have h := gA 0 0 (.inl rfl) (.inl rfl); rw [n0] at h; exact h
  · have h := gA 0 q (.inl rfl) (.inr rfl); rw [n1] at h; exact h
  · have h := gA p 0 (.inr rfl) (.inl rfl); rw [n2] at h; exact h
  · exact gA p q (.inr rfl) (.inr rfl)
  · have h := gB 0 0 (.inl rfl) (.inl rfl); rw [n0] at h; exact h
  · have h := gB 0 r (.inl rfl) (.inr rfl); rw [n1] at h; exact h
  · have h := gB q 0 (.inr rfl) (.inl rfl); rw [n2] at h; exact h
  · exact gB q r (.inr rfl) (.inr rfl)
theorem env_end {rec : Fn → Fn → Fn} {f g : Fn} {z : Nat → Fn} (en : Env (regY A B C s u p q r PS PT PU) m6 (sgR rec p q r f g z 22)) {i j : Nat} (hi : i < 2 * p) (hj : j < 2 * r) : C.get m6 i j = qd p r (bl (pr rec p q r f g)) i j := by
  obtain ⟨e8, e9, e10, e11⟩ := sg_end (rec := rec) (p := p) (q := q) (r := r) (f := f) (g := g) (z := z)
  have k8 : Eqv p r ((C.blk 0 0 p r).get m6) _ := en 8 (by omega)
  have k9 : Eqv p r ((C.blk 0 r p r).get m6) _ := en 9 (by omega)
  have k10 : Eqv p r ((C.blk p 0 p r).get m6) _ := en 10 (by omega)
  have k11 : Eqv p r ((C.blk p r p r).get m6) _ := en 11 (by omega)
  rw [e8] at k8
  rw [e9] at k9
  rw [e10] at k10
  rw [e11] at k11
  unfold qd
  by_cases c1 : i < p
  · rw [if_pos c1]
    by_cases c2 : j < r
    · rw [if_pos c2]
      have := k8 i j c1 c2
      rwa [Prt.blk_get, Nat.zero_add, Nat.zero_add] at this
    · rw [if_neg c2]
      have := k9 i (j - r) c1 (by omega)
      rwa [Prt.blk_get, Nat.zero_add, show r + (j - r) = j by omega] at this
  · rw [if_neg c1]
    by_cases c2 : j < r
    · rw [if_pos c2]
      have := k10 (i - p) j (by omega) c2
      rwa [Prt.blk_get, Nat.zero_add, show p + (i - p) = i by omega] at this
    · rw [if_neg c2]
      have := k11 (i - p) (j - r) (by omega) (by omega)
      rwa [Prt.blk_get, show p + (i - p) = i by omega, show r + (j - r) = j by omega] at this
end
end Go.Proofs.Ytjapilpjahhimaa
