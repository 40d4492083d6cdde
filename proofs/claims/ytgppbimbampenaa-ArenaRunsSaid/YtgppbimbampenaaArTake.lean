/- arena: clear, Take. -/
import Derived.Test.YtgppbimbampenaaArLend
import Derived.BigRegion
namespace Go.Proofs.Ytgppbimbampenaa
open Go.RowKit Go.Shelf
def clrL (ws : List Nat) (o P : Nat) : List Nat := ws.take o ++ List.replicate P 0 ++ ws.drop (o + P)
theorem clrL_length {ws : List Nat} {o P : Nat} (h : o + P ≤ ws.length) : (clrL ws o P).length = ws.length := by
  unfold clrL
  simp only [List.length_append, List.length_take, List.length_replicate, List.length_drop]
  omega
theorem clrL_at {ws : List Nat} {o P j : Nat} (h : o + P ≤ ws.length) : lim (clrL ws o P) j = if o ≤ j ∧ j < o + P then 0 else lim ws j := by
  unfold lim clrL
  rw [List.append_assoc, List.getElem?_append, List.length_take, show min o ws.length = o by omega]
  by_cases h1 : j < o
  · rw [if_pos h1, if_neg (by omega), List.getElem?_take, if_pos h1]
  · rw [if_neg h1, List.getElem?_append, List.length_replicate]
    by_cases h2 : j - o < P
    · rw [if_pos h2, if_pos (by omega), List.getElem?_replicate, if_pos h2]; rfl
    · rw [if_neg h2, if_neg (by omega), List.getElem?_drop]
      congr 2; omega
theorem clrL_vals {ws : List Nat} {o P : Nat} : valsK .u64 (zn (clrL ws o P)) = (valsK .u64 (zn ws)).take o ++ List.replicate P (.int .u64 0) ++ (valsK .u64 (zn ws)).drop (o + P) := by
  unfold clrL valsK zn
  simp only [List.map_append, List.map_take, List.map_drop, List.map_replicate]
  rfl
theorem zeros_word (P : Nat) : (Builtin.zeroCells #[Value.int .u64 0] P).toList = List.replicate P (.int .u64 0) := by
  have e : (fun i : Nat => (#[Value.int .u64 0])[i % (#[Value.int .u64 0]).size]!) = fun _ => Value.int .u64 0 := by
    funext i
    have h : i % 1 = 0 := Nat.mod_one i
    simp [h]
  unfold Builtin.zeroCells
  rw [e]
  simp [List.eq_replicate_iff]
theorem wpList_clear {ops : Array Oper} {rest : List Oper} {o : Oper} {a : Act} {Q : Exit → Act → World → Prop} {W : World} (hgd : o.guard = none) (x : Operand)
    (ho : o.op = .call { callee := .builtin .clear, args := #[x], argTypes := #[39] }) {s off P : Nat} {ws : List Nat} (hx : a.eval x = lentS s off P) (hrow : Wr W s ws) (hfit : off + P ≤ ws.length)
    (h : ∀ W', Hid (Wr W' s (clrL ws off P)) → Hid (Kp s s W W') → Hid (∀ B, B ≤ s → Below B W W') → wpList Try.prog ops Q rest (a.put o.dst (.tuple #[])) W') : wpList Try.prog ops Q (o :: rest) a W := by
  refine wpList_plain hgd fun K hK => ?_
  have hu : Try.prog.underlying 39 = some (.slice 57) := Try.underlying39
  obtain ⟨i0, hi, hz0, hz1, hz2⟩ := info_parts info_u64
  by_cases h0 : P = 0
  · subst h0
    have hrun : (Builtin.clear_ #[39] o.type #[lentS s off 0]).run Try.prog W = .ok (.tuple #[]) W := by
      simp [Builtin.clear_, lentS, run_underlying hu]
    have e : clrL ws off 0 = ws := by
      unfold clrL
      rw [List.replicate_zero, List.append_nil, Nat.add_zero, List.take_append_drop]
    rw [e] at h
    unfold Oper.wp
    simp [execOp, ho, resolve, invoke, builtin, hx, hrun, Result.andThen]
    exact hK _ _ (h W hrow ⟨Nat.le_refl _, fun _ _ _ _ => rfl⟩ fun B _ => Below.refl B W)
  · have hst := run_storeCells_at Try.prog s off 57 (List.replicate P (.int .u64 0)) 0 _ W hrow (by
      have e := valsK_length .u64 (zn ws)
      rw [zn_length] at e
      rw [List.length_replicate, List.size_toArray]; omega) (fun v hv => by rw [(List.mem_replicate.1 hv).2]; rfl)
    rw [List.length_replicate, Nat.add_zero, ← clrL_vals] at hst
    have hrun : (Builtin.clear_ #[39] o.type #[lentS s off P]).run Try.prog W = .ok (.tuple #[]) (W.setRow s (valsK .u64 (zn (clrL ws off P))).toArray) := by
      have e : lentS s off P = .slice (some ⟨s, off, none⟩) P P := by unfold lentS; rw [if_neg h0]
      rw [e]
      simp [Builtin.clear_, run_underlying hu, zeroValue, typeInfo, hi, hz0, Value.cells, zeros_word, hst, h0]
    unfold Oper.wp
    simp [execOp, ho, resolve, invoke, builtin, hx, hrun, Result.andThen]
    refine hK _ _ (h _ (setRow_heap W s _ _ _ _ hrow) ⟨by simp [World.setRow], fun j _ h1 _ => setRow_other W s j _ (by omega)⟩ fun B hB => below_setRow (Below.refl B W) hB _)
theorem AN.lent {b g s n u h : Nat} {ws : List Nat} {W : World} (A : AN b W g s n u h ws) (u' : Nat) (hu : u' ≤ n) : AN b (W.setCell ⟨g, 2, none⟩ (.int .i64 (u' : Int))) g s n u' h ws :=
  ⟨A.box.set 2 _, A.row.put A.ne.symm _, A.len, A.ne, A.bg, A.bs, hu, A.hn, A.top⟩
theorem AN.most {b g s n u h : Nat} {ws : List Nat} {W : World} (A : AN b W g s n u h ws) (h' : Nat) (hh : h' ≤ n) : AN b (W.setCell ⟨g, 3, none⟩ (.int .i64 (h' : Int))) g s n u h' ws :=
  ⟨A.box.set 3 _, A.row.put A.ne.symm _, A.len, A.ne, A.bg, A.bs, A.un, hh, A.top⟩
theorem Kp.of {g s : Nat} {W W' : World} (h : Below W.heap.size W W') : Kp g s W W' := ⟨h.size, fun j hj _ _ => h.block j hj⟩
theorem Kp.both {g s : Nat} {W W' W'' : World} (h : Kp g s W W') (k : Kp g s W' W'') : Kp g s W W'' :=
  ⟨Nat.le_trans h.size k.size, fun j hj h1 h2 => (k.keep j (Nat.lt_of_lt_of_le hj h.size) h1 h2).trans (h.keep j hj h1 h2)⟩
theorem Kp.cell {g s i : Nat} {W : World} (u : Value) : Kp g s W (W.setCell ⟨g, i, none⟩ u) := ⟨by rw [World.size_setCell]; exact Nat.le_refl _, fun j _ h1 _ => Below.heap_setCell W ⟨g, i, none⟩ u j h1⟩
theorem Kp.fresh {g s q i : Nat} {W W' : World} (h : Kp g s W W') (hq : W.heap.size ≤ q) (u : Value) : Kp g s W (W'.setCell ⟨q, i, none⟩ u) :=
  ⟨by rw [World.size_setCell]; exact h.size, fun j hj h1 h2 => (Below.heap_setCell W' ⟨q, i, none⟩ u j (by show j ≠ q; omega)).trans (h.keep j hj h1 h2)⟩
theorem AN.put {b g s n u h : Nat} {ws : List Nat} {W : World} (A : AN b W g s n u h ws) {p : Addr} (h1 : g ≠ p.block) (h2 : s ≠ p.block) (v : Value) : AN b (W.setCell p v) g s n u h ws :=
  ⟨A.box.put h1 _, A.row.put h2 _, A.len, A.ne, A.bg, A.bs, A.un, A.hn, A.top⟩
theorem AN.clr {b g s n u h : Nat} {ws ws' : List Nat} {W W' : World} (A : AN b W g s n u h ws) (hr : Wr W' s ws') (hk : Kp s s W W') (hl : ws'.length = ws.length) : AN b W' g s n u h ws' :=
  ⟨hk.ms A.box A.ne A.ne, hr, hl.trans A.len, A.ne, A.bg, A.bs, A.un, A.hn, A.top⟩
theorem Kp.drew {g s : Nat} {W W' : World} (h : Kp g s W W') : Kp g s W W'.drew := ⟨h.size, h.keep⟩
theorem Kp.wide {g s : Nat} {W W' : World} (h : Kp s s W W') : Kp g s W W' := ⟨h.size, fun j hj _ h2 => h.keep j hj h2 h2⟩
section
variable {b g s n u h : Nat} {ws : List Nat} {W : World}
set_option maxHeartbeats 8000000 in
theorem ar_take (A : AN b W g s n u h ws) {r c P : Nat} (hr : r ≤ 64) (hc : c ≤ 64) (hP : r * c = P) (ho : u + P ≤ n) :
    Calls Try.prog 34 #[.pointer (some ⟨g, 0, none⟩), .int .i64 (r : Int), .int .i64 (c : Int)] W fun e W' => e = .returned (.tuple #[.agg #[.int .i64 (r : Int), .int .i64 (c : Int), .int .i64 (c : Int), .int .i64 (u : Int)], .int .i64 0]) ∧ AN b W' g s n (u + P) (max h (u + P)) (clrL ws u P) ∧ Kp g s W W' ∧ Below b W W' := by
  obtain ⟨B, G⟩ := mbox W #[.int .i64 0, .int .i64 0, .int .i64 0, .int .i64 0] 23 _ rfl
  have A1 := A.behind B
  have hm := ar_made A1.cell0
  have hl := ar_left A1
  have hs1 := fun w => ar_side (n := (r : Int)) (w := w)
  have hs2 := fun w => ar_side (n := (c : Int)) (w := w)
  rw [decide_eq_true (show (0 : Int) ≤ r ∧ (r : Int) ≤ 64 by omega)] at hs1
  rw [decide_eq_true (show (0 : Int) ≤ c ∧ (c : Int) ≤ 64 by omega)] at hs2
  have hP4 : P ≤ 4096 := by rw [← hP]; exact Nat.le_trans (Nat.mul_le_mul hr hc) (by decide)
  have e1 : IntKind.i64.wrap ((r : Int) * (c : Int)) = (P : Int) := by rw [← Int.natCast_mul, hP]; exact IntWalk.i64_in _ (by omega)
  have hu := A.un
  have ht := A.top
  have hh := A.hn
  have hgW : Hid (g < W.heap.size ∧ s < W.heap.size) := Lib.hid ⟨(Array.getElem?_eq_some_iff.1 A.box).1, A.row.lt⟩
  clear A
  have q1 : decide ((n : Int) - u < (P : Int)) = false := decide_eq_false (by omega)
  have hLN := Lib.hid (fun W (A : AN b W g s n (u + P) (max h (u + P)) ws) => ar_lend_yes A hr hc hP (Nat.le_refl _))
  have HP := Lib.hid hP
  obtain ⟨M, hM⟩ : ∃ M, M = max h (u + P) := ⟨_, rfl⟩
  have hMn : M ≤ n := by omega
  have hmx : ∀ (w : World) (ts : Array TypeId) (t : TypeId), (Builtin.max_ ts t #[.int .i64 (h : Int), .int .i64 ((u : Int) + P)]).run Try.prog w = .ok (.int .i64 (M : Int)) w := fun w ts t => by
    rw [max_twoM, show max (h : Int) ((u : Int) + P) = M by omega]
  rw [← hM] at hLN ⊢
  have HMn := Lib.hid hMn
  clear hP hM hMn
  go_enter Try.func34, Try.ntmps34
  go_wp2_with fail
  generalize W.alloc (.cells #[.int .i64 0, .int .i64 0, .int .i64 0, .int .i64 0] 23) = W0 at *
  refine hm.mono ?_
  rintro e w1 ⟨rfl, rfl⟩
  go_wp2_with fail
  refine (hs1 _).mono ?_
  rintro e w1 ⟨rfl, rfl⟩
  go_wp2_with fail
  refine (hs2 _).mono ?_
  rintro e w1 ⟨rfl, rfl⟩
  go_wp2_with fail
  refine hl.mono ?_
  rintro e w2 ⟨rfl, b2⟩
  have A2 := A1.behind b2
  have G2 := G.behind b2
  obtain ⟨B3, G3⟩ := mbox w2 #[.int .i64 (r : Int), .int .i64 (c : Int), .int .i64 (c : Int), .int .i64 (u : Int)] 23 _ rfl
  have A3 := A2.behind B3
  have c2 := A2.cell2
  have d2 := A3.cell2
  have f2 := A3.box.f 2
  have A4 := A3.lent (u + P) ho
  have e5 := A4.cell2
  have e3 := A4.cell3
  have f3 := A4.box.f 3
  rw [Int.natCast_add] at A4 e5 e3 f3
  clear hm hs1 hs2 hl
  have hg6 : g < W.heap.size := hgW.out.1
  have hs6 : s < W.heap.size := hgW.out.2
  have g68 : W.heap.size ≠ w2.heap.size := fun e => by have := (Array.getElem?_eq_some_iff.1 G2).1; omega
  have gg8 : g ≠ w2.heap.size := fun e => by have := (Array.getElem?_eq_some_iff.1 A2.box).1; omega
  have gs8 : s ≠ w2.heap.size := fun e => by have := A2.row.lt; omega
  have H6 : Ms _ W.heap.size _ _ := (G2.behind B3).put (p := ⟨g, 2, none⟩) (Nat.ne_of_gt hg6) (.int .i64 ((u : Int) + P))
  have H8 : Ms _ w2.heap.size _ _ := G3.put (p := ⟨g, 2, none⟩) gg8.symm (.int .i64 ((u : Int) + P))
  have K4 : Kp g s W _ := ((Kp.of (below_both (below_both B b2) B3)).both (Kp.cell (i := 2) (.int .i64 ((u : Int) + P))))
  have D4 : Below b W _ := ((below_both (below_both B b2) B3).mono (Nat.le_of_lt (Nat.lt_of_le_of_lt A1.bg hg6))).setCell (p := ⟨g, 2, none⟩) A1.bg (.int .i64 ((u : Int) + P))
  go_wp2_with fail
  clear d2 f2 c2 B3 G3 A3 A2 G2 b2 A1 B G
  generalize (w2.alloc (.cells #[.int .i64 (r : Int), .int .i64 (c : Int), .int .i64 (c : Int), .int .i64 (u : Int)] 23)).setCell ⟨g, 2, none⟩ (.int .i64 ((u : Int) + P)) = W4 at *
  generalize w2.heap.size = g8 at *
  go_region
  have A5 : AN b (W4.setCell ⟨g, 3, none⟩ (.int .i64 (M : Int))).drew g s n (u + P) M ws := (A4.most M HMn.out).drew
  have K5 : Kp g s W (W4.setCell ⟨g, 3, none⟩ (.int .i64 (M : Int))).drew := (K4.both (Kp.cell (i := 3) (.int .i64 (M : Int)))).drew
  have D5 : Below b W (W4.setCell ⟨g, 3, none⟩ (.int .i64 (M : Int))).drew := (D4.setCell (p := ⟨g, 3, none⟩) A4.bg _).drew
  have L6 : Ms (W4.setCell ⟨g, 3, none⟩ (.int .i64 (M : Int))).drew W.heap.size _ _ := H6.put (p := ⟨g, 3, none⟩) (Nat.ne_of_gt hg6) (.int .i64 (M : Int))
  have L8 : Ms (W4.setCell ⟨g, 3, none⟩ (.int .i64 (M : Int))).drew g8 _ _ := H8.put (p := ⟨g, 3, none⟩) gg8.symm (.int .i64 (M : Int))
  generalize (W4.setCell ⟨g, 3, none⟩ (.int .i64 (M : Int))).drew = W5 at *
  clear A4 e5 e3 f3 H6 H8 K4 D4 hmx
  have hLL := hLN.out _ A5
  have x0 := L8.cell (i := 0) rfl
  have x1 := L8.cell (i := 1) rfl
  have x2 := L8.cell (i := 2) rfl
  have x3 := L8.cell (i := 3) rfl
  have s5 : b ≤ W5.heap.size := Nat.le_trans A5.bg (Nat.le_of_lt (Array.getElem?_eq_some_iff.1 A5.box).1)
  have hfit : u + P ≤ ws.length := by rw [A5.len]; exact ho
  have HFT := Lib.hid hfit
  have HS6 := Lib.hid hs6
  have HG6 := Lib.hid hg6
  clear hfit ho hu ht hh hP4 hr hc q1 hs6 hg6
  go_wp2_with fail
  refine hLL.mono ?_
  rintro e w6 ⟨rfl, b6⟩
  have A6 := A5.behind b6
  have N6 := L6.behind b6
  have N8 := L8.behind b6
  have K6 := K5.both (Kp.of b6)
  have D6 : Below b W w6 := D5.trans (b6.mono s5)
  go_wp2_with (refine wpList_clear rfl (.tmp 64) rfl (s := s) (off := u) (P := P) (ws := ws) rfl A6.row HFT.out ?_; intro w7 hr7 hk7 hb7; have A7 := A6.clr hr7.out hk7.out (clrL_length HFT.out); have O6 := hk7.out.ms N6 (Nat.ne_of_gt HS6.out) (Nat.ne_of_gt HS6.out); have O8 := hk7.out.ms N8 gs8.symm gs8.symm; have K7 : Kp g s W w7 := K6.both (hk7.out.wide); have D7 : Below b W w7 := D6.trans (hb7.out b A6.bs); clear A5 K5 D5 L6 L8 hLL x0 x1 x2 x3 s5 A6 N6 N8 K6 D6 hr7 hk7 hb7; have y0 := O8.cell (i := 0) rfl; have y1 := O8.cell (i := 1) rfl; have y2 := O8.cell (i := 2) rfl; have y3 := O8.cell (i := 3) rfl; have g0 := O6.cell (i := 0) rfl; have g1 := O6.cell (i := 1) rfl; have g2 := O6.cell (i := 2) rfl; have g3 := O6.cell (i := 3) rfl; have f0 := O6.f 0; have f1 := O6.f 1; have f2 := O6.f 2; have f3 := O6.f 3)
  have hg6 := HG6.out
  have hs6 := HS6.out
  exact bodyPost_ret (v := .tuple #[.agg #[.int .i64 (r : Int), .int .i64 (c : Int), .int .i64 (c : Int), .int .i64 (u : Int)], .int .i64 0]) (by simp [results, Try.results34, go_sem, g0, g1, g2, g3]) rfl
    ⟨rfl, (((A7.put (Nat.ne_of_lt hg6) (Nat.ne_of_lt hs6) _).put (Nat.ne_of_lt hg6) (Nat.ne_of_lt hs6) _).put (Nat.ne_of_lt hg6) (Nat.ne_of_lt hs6) _).put (Nat.ne_of_lt hg6) (Nat.ne_of_lt hs6) _, (((K7.fresh (Nat.le_refl _) _).fresh (Nat.le_refl _) _).fresh (Nat.le_refl _) _).fresh (Nat.le_refl _) _, ar_put4 D7 (Nat.le_trans A7.bg (Nat.le_of_lt hg6)) _ _ _ _⟩
end
end Go.Proofs.Ytgppbimbampenaa
