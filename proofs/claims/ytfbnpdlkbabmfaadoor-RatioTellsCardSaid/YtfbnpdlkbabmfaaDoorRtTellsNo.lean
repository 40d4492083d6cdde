/- vernierlaw05.RatioTells, walked. -/
import Derived.Test.YtfbnpdlkbabmfaaDoorRtBack
import Derived.Deep.DeepCutAuto
namespace Go.Proofs.YtfbnpdlkbabmfaaDoor
open Go.RowKit Go.Shelf
attribute [local go_sem ↓] Go.wp_at_zero Go.wp_at_succ

theorem Cs.more {W : World} {g : Nat} {cs : Array Value} {t : TypeId} {o : Obj} (h : Cs W g cs t) : Cs (W.alloc o) g cs t := h.behind (bel_alloc W o)
theorem Cs.new1 (W : World) (o : Obj) (cs : Array Value) (t : TypeId) : Cs ((W.alloc o).alloc (.cells cs t)) (W.heap.size + 1) cs t := by
  have h := Cs.new (W.alloc o) cs t
  rwa [World.size_alloc] at h
theorem new1 {Y v : World} {cs : Array Value} {t : TypeId} (h : Below (Y.alloc (.cells cs t)).heap.size (Y.alloc (.cells cs t)) v) : Cs v Y.heap.size cs t := (Cs.new Y cs t).behind h
theorem new2 {Y v : World} {cs : Array Value} {t : TypeId} (h : Below ((Y.alloc (.cells cs t)).alloc (.cells cs t)).heap.size ((Y.alloc (.cells cs t)).alloc (.cells cs t)) v) : Cs v Y.heap.size cs t ∧ Cs v (Y.heap.size + 1) cs t := ⟨(Cs.new Y cs t).more.behind h, (Cs.new1 Y (.cells cs t) cs t).behind h⟩
theorem new1d {Y v : World} {cs : Array Value} {t : TypeId} (h : Below (Y.alloc (.cells cs t)).drew.heap.size (Y.alloc (.cells cs t)).drew v) : Cs v Y.heap.size cs t := (Cs.new Y cs t).drew.behind h
theorem new2d {Y v : World} {cs : Array Value} {t : TypeId} (h : Below ((Y.alloc (.cells cs t)).alloc (.cells cs t)).drew.heap.size ((Y.alloc (.cells cs t)).alloc (.cells cs t)).drew v) : Cs v Y.heap.size cs t ∧ Cs v (Y.heap.size + 1) cs t := ⟨(Cs.new Y cs t).more.drew.behind h, (Cs.new1 Y (.cells cs t) cs t).drew.behind h⟩
theorem cmpZ_lt0 {x : Int} (h : x < 0) : cmpZ x 0 = -1 := by rw [cmpZ, if_pos h]
theorem cmpZ_gt0 {x : Int} (h : 0 < x) : cmpZ x 0 = 1 := by rw [cmpZ, if_neg (by omega), if_pos h]
theorem Wv.numA {w : World} {s : Bool} {a : Option Addr} {m cap : Nat} {z : Int} {k : Nat} (h : Wv w s a m cap z k) : Num w (.slice a m cap) z.natAbs k := by
  obtain ⟨M, h1, rfl⟩ := h
  rw [wn_abs]; exact h1
theorem sg_pos {x x' z : Int} {D D' d : Nat} (hx : 0 < x') (h : Eqv z d (x * sg x' D') (D * x'.natAbs)) : Eqv z d (x * D') (x' * D).natAbs := by
  rw [sg, if_neg (by omega)] at h
  rw [Int.natAbs_mul, Int.natAbs_natCast, Nat.mul_comm]
  exact h
theorem sg_neg {x x' z : Int} {D D' d : Nat} (hx : x' < 0) (h : Eqv z d (x * sg x' D') (D * x'.natAbs)) : Eqv z d (-(x * D')) (-(x' * D)).natAbs := by
  rw [sg, if_pos hx, Int.mul_neg] at h
  rw [Int.natAbs_neg, Int.natAbs_mul, Int.natAbs_natCast, Nat.mul_comm]
  exact h
theorem bal {w w' : World} {o : Obj} (h : Below w.heap.size w w') : Below w.heap.size w (w'.alloc o) := h.alloc h.size o
theorem bdr {w w' : World} {B : Nat} (h : Below B w w') : Below B w w'.drew := h.drew
theorem bst {w w' : World} {p : Addr} {u : Value} (h : Below w.heap.size w w') (hp : w.heap.size ≤ p.block) : Below w.heap.size w (w'.setCell p u) := h.setCell hp u
/-- a store into a block of a whole number's own passes the numbers by -/
theorem Num.setC {W : World} {v : Value} {N i g j : Nat} {p : Bool} {qa : Option Addr} {ql qc : Nat} (h : Num W v N i) (G : Cs W g #[.bool p, .slice qa ql qc] 24) (u : Value) : Num (W.setCell ⟨g, j, none⟩ u) v N i := by
  obtain ⟨xs, ⟨b, h1, h2⟩, h3⟩ := h
  refine ⟨xs, ⟨b, by simpa [World.setCell] using h1, ?_⟩, h3⟩
  rcases h2 with h2 | ⟨off, cap, e, hl, hc⟩
  · exact .inl h2
  · refine .inr ⟨off, cap, e, hl, fun q hq => ?_⟩
    by_cases hb : b = g
    · subst hb
      have h4 := hc q hq
      rw [cell_of_row W b (off + q) _ _ (0, 0) G] at h4
      have h5 : off + q < 2 := by
        rcases Nat.lt_or_ge (off + q) 2 with h | h
        · exact h
        · rw [Array.getElem?_eq_none (by simpa using h)] at h4; cases h4
      generalize off + q = z at h4 h5
      have : z = 0 ∨ z = 1 := by omega
      rcases this with rfl | rfl <;> simp at h4
    · exact (World.cell?_of_block (w := W) (a := ⟨b, off + q, none⟩) (Below.heap_setCell W ⟨g, j, none⟩ u b hb)).trans (hc q hq)
theorem Wv.setC {W : World} {s : Bool} {a : Option Addr} {m c i g j : Nat} {x : Int} {p : Bool} {qa : Option Addr} {ql qc : Nat} (h : Wv W s a m c x i) (G : Cs W g #[.bool p, .slice qa ql qc] 24) (u : Value) : Wv (W.setCell ⟨g, j, none⟩ u) s a m c x i := by
  obtain ⟨M, h1, h2⟩ := h
  exact ⟨M, h1.setC G u, h2⟩
/-- two whole numbers in blocks of their own, behind Y -/
def XY (Y : World) (x y : Int) (k : Nat) (s t : Value) (W : World) : Prop := ∃ gx gy e1 ea el ec f1 fa fl fc, s = .pointer (some ⟨gx, 0, none⟩) ∧ t = .pointer (some ⟨gy, 0, none⟩) ∧ Cs W gx #[.bool e1, .slice ea el ec] 24 ∧ Cs W gy #[.bool f1, .slice fa fl fc] 24 ∧ Wv W e1 ea el ec x k ∧ Wv W f1 fa fl fc y k ∧ gx ≠ gy ∧ Y.heap.size ≤ gx ∧ Y.heap.size ≤ gy ∧ Below Y.heap.size Y W
section
variable {Y V : World} {x y : Int} {k gx gy : Nat} {e1 f1 : Bool} {ea fa : Option Addr} {el ec fl fc : Nat}
theorem xy_pp {r r' : Bool} {ra ra' : Option Addr} {rl rc rl' rc' : Nat} (Fx : Cs V gx #[.bool r, .slice ra rl rc] 24) (Fy : Cs V gy #[.bool r', .slice ra' rl' rc'] 24) (zx : Wv V e1 ea el ec x k) (zy : Wv V f1 fa fl fc y k) (BY : Below Y.heap.size Y V) (hne : gx ≠ gy) (hx : Y.heap.size ≤ gx) (hy : Y.heap.size ≤ gy) :
    XY Y x y k (.pointer (some ⟨gx, 0, none⟩)) (.pointer (some ⟨gy, 0, none⟩)) ((((V.setCell ⟨gx, 0, none⟩ (.bool e1)).setCell ⟨gx, 1, none⟩ (.slice ea el ec)).setCell ⟨gy, 0, none⟩ (.bool f1)).setCell ⟨gy, 1, none⟩ (.slice fa fl fc)) := by
  have F1 : Cs (V.setCell ⟨gx, 0, none⟩ (.bool e1)) gx #[.bool e1, .slice ra rl rc] 24 := Fx.set 0 _
  have F2 : Cs ((V.setCell ⟨gx, 0, none⟩ (.bool e1)).setCell ⟨gx, 1, none⟩ (.slice ea el ec)) gx #[.bool e1, .slice ea el ec] 24 := F1.set 1 _
  have Fy := (Fy.put (p := ⟨gx, 0, none⟩) hne.symm (.bool e1)).put (p := ⟨gx, 1, none⟩) hne.symm (.slice ea el ec)
  have zx := (zx.setC Fx (j := 0) (.bool e1)).setC F1 (j := 1) (.slice ea el ec)
  have zy := (zy.setC Fx (j := 0) (.bool e1)).setC F1 (j := 1) (.slice ea el ec)
  have BY := ((BY.setCell (p := ⟨gx, 0, none⟩) hx (.bool e1)).setCell (p := ⟨gx, 1, none⟩) hx (.slice ea el ec))
  generalize ((V.setCell ⟨gx, 0, none⟩ (.bool e1)).setCell ⟨gx, 1, none⟩ (.slice ea el ec)) = U at *
  have G1 : Cs (U.setCell ⟨gy, 0, none⟩ (.bool f1)) gy #[.bool f1, .slice ra' rl' rc'] 24 := Fy.set 0 _
  exact ⟨gx, gy, e1, ea, el, ec, f1, fa, fl, fc, rfl, rfl, (F2.put hne _).put hne _, G1.set 1 _, (zx.setC Fy _).setC G1 _, (zy.setC Fy _).setC G1 _, hne, hx, hy, (BY.setCell hy _).setCell hy _⟩
theorem xy_set {r r' : Bool} {ra ra' : Option Addr} {rl rc rl' rc' : Nat} (Fx : Cs V gx #[.bool r, .slice ra rl rc] 24) (Fy : Cs V gy #[.bool r', .slice ra' rl' rc'] 24) (zx : Wv V e1 ea el ec x k) (zy : Wv V f1 fa fl fc y k) (BY : Below Y.heap.size Y V) (hne : gx ≠ gy) (hx : Y.heap.size ≤ gx) (hy : Y.heap.size ≤ gy) (W : World) (hW : W = ((((V.setCell ⟨gx, 0, none⟩ (.bool e1)).setCell ⟨gx, 1, none⟩ (.slice ea el ec)).setCell ⟨gy, 0, none⟩ (.bool f1)).setCell ⟨gy, 1, none⟩ (.slice fa fl fc))) :
    Cs W gx #[.bool e1, .slice ea el ec] 24 ∧ Cs W gy #[.bool f1, .slice fa fl fc] 24 ∧ Wv W e1 ea el ec x k ∧ Wv W f1 fa fl fc y k ∧ Below Y.heap.size Y W := by
  subst hW
  have F1 : Cs (V.setCell ⟨gx, 0, none⟩ (.bool e1)) gx #[.bool e1, .slice ra rl rc] 24 := Fx.set 0 _
  have F2 : Cs ((V.setCell ⟨gx, 0, none⟩ (.bool e1)).setCell ⟨gx, 1, none⟩ (.slice ea el ec)) gx #[.bool e1, .slice ea el ec] 24 := F1.set 1 _
  have Fy := (Fy.put (p := ⟨gx, 0, none⟩) hne.symm (.bool e1)).put (p := ⟨gx, 1, none⟩) hne.symm (.slice ea el ec)
  have zx := (zx.setC Fx (j := 0) (.bool e1)).setC F1 (j := 1) (.slice ea el ec)
  have zy := (zy.setC Fx (j := 0) (.bool e1)).setC F1 (j := 1) (.slice ea el ec)
  have BY := ((BY.setCell (p := ⟨gx, 0, none⟩) hx (.bool e1)).setCell (p := ⟨gx, 1, none⟩) hx (.slice ea el ec))
  generalize ((V.setCell ⟨gx, 0, none⟩ (.bool e1)).setCell ⟨gx, 1, none⟩ (.slice ea el ec)) = U at *
  have G1 : Cs (U.setCell ⟨gy, 0, none⟩ (.bool f1)) gy #[.bool f1, .slice ra' rl' rc'] 24 := Fy.set 0 _
  exact ⟨(F2.put hne _).put hne _, G1.set 1 _, (zx.setC Fy _).setC G1 _, (zy.setC Fy _).setC G1 _, (BY.setCell hy _).setCell hy _⟩
/-- the second block made last, its number in it -/
theorem xy_pn (Fx : Cs V gx #[.bool false, .slice none 0 0] 24) (zx : Wv V e1 ea el ec x k) (zy : Wv V f1 fa fl fc y k) (BY : Below Y.heap.size Y V) (hx : Y.heap.size ≤ gx) :
    XY Y x y k (.pointer (some ⟨gx, 0, none⟩)) (.pointer (some ⟨V.heap.size, 0, none⟩)) (((V.setCell ⟨gx, 0, none⟩ (.bool e1)).setCell ⟨gx, 1, none⟩ (.slice ea el ec)).alloc (.cells #[.bool f1, .slice fa fl fc] 24)) := by
  have hlt := Fx.lt
  have hy := BY.size
  have F1 : Cs (V.setCell ⟨gx, 0, none⟩ (.bool e1)) gx #[.bool e1, .slice none 0 0] 24 := Fx.set 0 _
  have F2 : Cs ((V.setCell ⟨gx, 0, none⟩ (.bool e1)).setCell ⟨gx, 1, none⟩ (.slice ea el ec)) gx #[.bool e1, .slice ea el ec] 24 := F1.set 1 _
  have zx := (zx.setC Fx (j := 0) (.bool e1)).setC F1 (j := 1) (.slice ea el ec)
  have zy := (zy.setC Fx (j := 0) (.bool e1)).setC F1 (j := 1) (.slice ea el ec)
  have BY := ((BY.setCell (p := ⟨gx, 0, none⟩) hx (.bool e1)).setCell (p := ⟨gx, 1, none⟩) hx (.slice ea el ec))
  have hz : ((V.setCell ⟨gx, 0, none⟩ (.bool e1)).setCell ⟨gx, 1, none⟩ (.slice ea el ec)).heap.size = V.heap.size := by simp [World.setCell]
  generalize ((V.setCell ⟨gx, 0, none⟩ (.bool e1)).setCell ⟨gx, 1, none⟩ (.slice ea el ec)) = U at *
  have Gy := Cs.new U #[.bool f1, .slice fa fl fc] 24
  have bx := bel_alloc U (.cells #[.bool f1, .slice fa fl fc] 24)
  rw [hz] at Gy
  exact ⟨gx, V.heap.size, e1, ea, el, ec, f1, fa, fl, fc, rfl, rfl, F2.behind bx, Gy, zx.behind bx, zy.behind bx, by omega, hx, hy, BY.trans (bx.mono BY.size)⟩
/-- the first block made last, its number in it -/
theorem xy_np (Fy : Cs V gy #[.bool false, .slice none 0 0] 24) (zx : Wv V e1 ea el ec x k) (zy : Wv V f1 fa fl fc y k) (BY : Below Y.heap.size Y V) (hy : Y.heap.size ≤ gy) :
    XY Y x y k (.pointer (some ⟨V.heap.size, 0, none⟩)) (.pointer (some ⟨gy, 0, none⟩)) (((V.setCell ⟨gy, 0, none⟩ (.bool f1)).setCell ⟨gy, 1, none⟩ (.slice fa fl fc)).alloc (.cells #[.bool e1, .slice ea el ec] 24)) := by
  obtain ⟨g1, g2, a1, a2, a3, a4, a5, a6, a7, a8, h1, h2, h3, h4, h5, h6, h7, h8, h9, hb⟩ := xy_pn (x := y) (y := x) (k := k) Fy zy zx BY hy
  exact ⟨g2, g1, a5, a6, a7, a8, a1, a2, a3, a4, h2, h1, h4, h3, h6, h5, h7.symm, h9, h8, hb⟩
/-- both made last -/
theorem xy_nn (zx : Wv V e1 ea el ec x k) (zy : Wv V f1 fa fl fc y k) (BY : Below Y.heap.size Y V) :
    XY Y x y k (.pointer (some ⟨V.heap.size, 0, none⟩)) (.pointer (some ⟨V.heap.size + 1, 0, none⟩)) ((V.alloc (.cells #[.bool e1, .slice ea el ec] 24)).alloc (.cells #[.bool f1, .slice fa fl fc] 24)) := by
  obtain ⟨b, h1, h2, h3⟩ := dbox2 V #[.bool e1, .slice ea el ec] #[.bool f1, .slice fa fl fc] 24 24 _ rfl
  have hy := BY.size
  exact ⟨_, _, _, _, _, _, _, _, _, _, rfl, rfl, h1, h2, zx.behind b, zy.behind b, by omega, by omega, by omega, BY.trans (b.mono BY.size)⟩
theorem xy_nn' (zx : Wv V e1 ea el ec x k) (zy : Wv V f1 fa fl fc y k) (BY : Below Y.heap.size Y V) :
    XY Y x y k (.pointer (some ⟨V.heap.size + 1, 0, none⟩)) (.pointer (some ⟨V.heap.size, 0, none⟩)) ((V.alloc (.cells #[.bool f1, .slice fa fl fc] 24)).alloc (.cells #[.bool e1, .slice ea el ec] 24)) := by
  obtain ⟨g1, g2, a1, a2, a3, a4, a5, a6, a7, a8, h1, h2, h3, h4, h5, h6, h7, h8, h9, hb⟩ := xy_nn (x := y) (y := x) (k := k) zy zx BY
  exact ⟨g2, g1, a5, a6, a7, a8, a1, a2, a3, a4, h2, h1, h4, h3, h6, h5, h7.symm, h9, h8, hb⟩
end
set_option maxRecDepth 100000 in
set_option maxHeartbeats 2000000 in
theorem tells5_big {s s' : Bool} {a a' b b' : Option Addr} {m c m' c' n k n' k' D D' i : Nat} {x x' : Int} {w : World} (zA : Wv w s a m c x i) (hD : Num w (.slice b n k) D i) (zA' : Wv w s' a' m' c' x' i) (hD' : Num w (.slice b' n' k') D' i) (hT : TabOk w) (HS : Hid ((sm m n && sm m' n') = false)) :
    Calls Tryd.prog 3 #[.agg #[.bool s, .slice a m c, .slice b n k], .agg #[.bool s', .slice a' m' c', .slice b' n' k']] w fun e W' => e = .returned (.bool true) ∧ Below w.heap.size w W' := by
  have hb := dbox2 w #[.bool s, .slice a m c, .slice b n k] #[.bool s', .slice a' m' c', .slice b' n' k'] 26 26
  have hbs := fun W p a m k b n l => dbox1 W #[.bool p, .slice a m k, .slice b n l] 26
  have hbf := fun W => dbox1 W #[.bool s, .slice a m c, .slice b n k, .bool s', .slice a' m' c', .slice b' n' k'] 26
  go_enter Tryd.func3, Tryd.ntmps3
  go_wp2_with fail
  obtain ⟨B, GA, GB, hsz⟩ := hb _ rfl
  generalize ((w.alloc (.cells #[.bool s, .slice a m c, .slice b n k] 26)).alloc (.cells #[.bool s', .slice a' m' c', .slice b' n' k'] 26)) = W0 at B GA GB hsz ⊢
  clear hb hsz
  refine (lalive5 (hT.behind B)).mono ?_
  rintro e v1 ⟨rfl, bb⟩
  replace GA := GA.behind bb
  replace GB := GB.behind bb
  replace B := below_both B bb
  have GAc0 := GA.cell (i := 0) rfl
  have GAc1 := GA.cell (i := 1) rfl
  have GAc2 := GA.cell (i := 2) rfl
  have GBc0 := GB.cell (i := 0) rfl
  have GBc1 := GB.cell (i := 1) rfl
  have GBc2 := GB.cell (i := 2) rfl
  go_wp2_with fail
  clear GAc0 GAc1 GAc2 GBc0 GBc1 GBc2
  obtain ⟨bx, S, zx⟩ := hbf v1 _ rfl
  generalize (v1.alloc (.cells #[.bool s, .slice a m c, .slice b n k, .bool s', .slice a' m' c', .slice b' n' k'] 26)) = y1 at bx S zx ⊢
  replace GA := GA.behind bx
  replace GB := GB.behind bx
  replace B := below_both B bx
  clear bx zx hbf
  refine (few_two_is _ _ S HS.out).mono ?_
  rintro e v2 ⟨rfl, bb⟩
  replace GA := GA.behind bb
  replace GB := GB.behind bb
  replace B := below_both B bb
  clear S bb
  go_wp2
  go_ret
  exact ⟨rfl, B⟩
set_option maxRecDepth 100000 in
set_option maxHeartbeats 2000000 in
theorem tells5_no0 {s s' : Bool} {a a' b b' : Option Addr} {m c m' c' n k n' k' D D' i : Nat} {x x' : Int} {w : World} (zA : Wv w s a m c x i) (hD : Num w (.slice b n k) D i) (zA' : Wv w s' a' m' c' x' i) (hD' : Num w (.slice b' n' k') D' i) (hT : TabOk w) (HS : Hid ((sm m n && sm m' n') = true)) (H0 : Hid (D = 0)) :
    Calls Tryd.prog 3 #[.agg #[.bool s, .slice a m c, .slice b n k], .agg #[.bool s', .slice a' m' c', .slice b' n' k']] w fun e W' => e = .returned (.bool true) ∧ Below w.heap.size w W' := by
  have hb := dbox2 w #[.bool s, .slice a m c, .slice b n k] #[.bool s', .slice a' m' c', .slice b' n' k'] 26 26
  have hbs := fun W p a m k b n l => dbox1 W #[.bool p, .slice a m k, .slice b n l] 26
  have hbf := fun W => dbox1 W #[.bool s, .slice a m c, .slice b n k, .bool s', .slice a' m' c', .slice b' n' k'] 26
  have zA0 := zA
  obtain ⟨⟨s1, s2⟩, s3, s4⟩ : (m ≤ 6 ∧ n ≤ 6) ∧ m' ≤ 6 ∧ n' ≤ 6 := by have := HS.out; simp only [sm, Bool.and_eq_true, decide_eq_true_iff] at this; exact this
  replace zA := zA.len s1
  replace zA' := zA'.len s3
  replace hD := num_len hD s2
  replace hD' := num_len hD' s4
  clear s1 s2 s3 s4 zA0
  have HN : Hid (D = 0 ∨ D' = 0) := Lib.hid (.inl H0.out)
  go_enter Tryd.func3, Tryd.ntmps3
  go_wp2_with fail
  obtain ⟨B, GA, GB, hsz⟩ := hb _ rfl
  generalize ((w.alloc (.cells #[.bool s, .slice a m c, .slice b n k] 26)).alloc (.cells #[.bool s', .slice a' m' c', .slice b' n' k'] 26)) = W0 at B GA GB hsz ⊢
  clear hb hsz
  refine (lalive5 (hT.behind B)).mono ?_
  rintro e v1 ⟨rfl, bb⟩
  replace GA := GA.behind bb
  replace GB := GB.behind bb
  replace B := below_both B bb
  have GAc0 := GA.cell (i := 0) rfl
  have GAc1 := GA.cell (i := 1) rfl
  have GAc2 := GA.cell (i := 2) rfl
  have GBc0 := GB.cell (i := 0) rfl
  have GBc1 := GB.cell (i := 1) rfl
  have GBc2 := GB.cell (i := 2) rfl
  go_wp2_with fail
  clear GAc0 GAc1 GAc2 GBc0 GBc1 GBc2
  obtain ⟨bx, S, zx⟩ := hbf v1 _ rfl
  generalize (v1.alloc (.cells #[.bool s, .slice a m c, .slice b n k, .bool s', .slice a' m' c', .slice b' n' k'] 26)) = y1 at bx S zx ⊢
  replace GA := GA.behind bx
  replace GB := GB.behind bx
  replace B := below_both B bx
  clear bx zx hbf
  refine (few_two_is _ _ S HS.out).mono ?_
  rintro e v2 ⟨rfl, bb⟩
  replace GA := GA.behind bb
  replace GB := GB.behind bb
  replace B := below_both B bb
  clear S bb
  have GAc0 := GA.cell (i := 0) rfl
  have GAc1 := GA.cell (i := 1) rfl
  have GAc2 := GA.cell (i := 2) rfl
  have GBc0 := GB.cell (i := 0) rfl
  have GBc1 := GB.cell (i := 1) rfl
  have GBc2 := GB.cell (i := 2) rfl
  go_wp2_with fail
  clear GAc0 GAc1 GAc2 GBc0 GBc1 GBc2
  refine (radd_no (zA.behind B) (hD.behind B) (zA'.behind B) (hD'.behind B) (by decide) HN).mono ?_
  rintro e v3 ⟨p5, a5, m5, k5, b5, n5, l5, u5, rfl, nf5, nd5, bb, hu⟩
  subst hu
  obtain ⟨bx, G5, zx⟩ := hbs v3 p5 a5 m5 k5 b5 n5 l5 _ rfl
  replace GA := (GA.behind bb).behind bx
  replace GB := (GB.behind bb).behind bx
  replace nf5 := nf5.behind bx
  replace nd5 := nd5.behind bx
  replace B := below_both (below_both B bb) bx
  clear bb zx
  have GAc0 := GA.cell (i := 0) rfl
  have GAc1 := GA.cell (i := 1) rfl
  have GAc2 := GA.cell (i := 2) rfl
  have GBc0 := GB.cell (i := 0) rfl
  have GBc1 := GB.cell (i := 1) rfl
  have GBc2 := GB.cell (i := 2) rfl
  have G5c0 := G5.cell (i := 0) rfl
  have G5c1 := G5.cell (i := 1) rfl
  have G5c2 := G5.cell (i := 2) rfl
  go_wp2_with fail
  clear bx GAc0 GAc1 GAc2 GBc0 GBc1 GBc2 G5c0 G5c1 G5c2
  generalize (v3.alloc (.cells #[.bool p5, .slice a5 m5 k5, .slice b5 n5 l5] 26)) = y3 at GA GB G5 nf5 nd5 B ⊢
  generalize v3.heap.size = g5 at G5 ⊢
  refine (rsub_no (zA.behind B) (hD.behind B) (zA'.behind B) (hD'.behind B) (by decide) HN).mono ?_
  rintro e v4 ⟨p7, a7, m7, k7, b7, n7, l7, u7, rfl, nf7, nd7, bb, hu⟩
  subst hu
  obtain ⟨bx, G7, zx⟩ := hbs v4 p7 a7 m7 k7 b7 n7 l7 _ rfl
  replace GA := (GA.behind bb).behind bx
  replace GB := (GB.behind bb).behind bx
  replace G5 := (G5.behind bb).behind bx
  replace nf5 := (nf5.behind bb).behind bx
  replace nd5 := (nd5.behind bb).behind bx
  replace nf7 := nf7.behind bx
  replace nd7 := nd7.behind bx
  replace B := below_both (below_both B bb) bx
  clear bb zx
  have GAc0 := GA.cell (i := 0) rfl
  have GAc1 := GA.cell (i := 1) rfl
  have GAc2 := GA.cell (i := 2) rfl
  have GBc0 := GB.cell (i := 0) rfl
  have GBc1 := GB.cell (i := 1) rfl
  have GBc2 := GB.cell (i := 2) rfl
  have G5c0 := G5.cell (i := 0) rfl
  have G5c1 := G5.cell (i := 1) rfl
  have G5c2 := G5.cell (i := 2) rfl
  have G7c0 := G7.cell (i := 0) rfl
  have G7c1 := G7.cell (i := 1) rfl
  have G7c2 := G7.cell (i := 2) rfl
  go_wp2_with fail
  clear bx GAc0 GAc1 GAc2 GBc0 GBc1 GBc2 G5c0 G5c1 G5c2 G7c0 G7c1 G7c2
  generalize (v4.alloc (.cells #[.bool p7, .slice a7 m7 k7, .slice b7 n7 l7] 26)) = y4 at GA GB G5 G7 nf5 nd5 nf7 nd7 B ⊢
  generalize v4.heap.size = g7 at G7 ⊢
  refine (rmul_no (zA.behind B) (hD.behind B) (zA'.behind B) (hD'.behind B) (by decide) HN).mono ?_
  rintro e v5 ⟨p9, a9, m9, k9, b9, n9, l9, u9, rfl, nf9, nd9, bb, hu⟩
  subst hu
  obtain ⟨bx, G9, zx⟩ := hbs v5 p9 a9 m9 k9 b9 n9 l9 _ rfl
  replace GA := (GA.behind bb).behind bx
  replace GB := (GB.behind bb).behind bx
  replace G5 := (G5.behind bb).behind bx
  replace G7 := (G7.behind bb).behind bx
  replace nf5 := (nf5.behind bb).behind bx
  replace nd5 := (nd5.behind bb).behind bx
  replace nf7 := (nf7.behind bb).behind bx
  replace nd7 := (nd7.behind bb).behind bx
  replace nf9 := nf9.behind bx
  replace nd9 := nd9.behind bx
  replace B := below_both (below_both B bb) bx
  clear bb zx
  have GAc0 := GA.cell (i := 0) rfl
  have GAc1 := GA.cell (i := 1) rfl
  have GAc2 := GA.cell (i := 2) rfl
  have GBc0 := GB.cell (i := 0) rfl
  have GBc1 := GB.cell (i := 1) rfl
  have GBc2 := GB.cell (i := 2) rfl
  have G5c0 := G5.cell (i := 0) rfl
  have G5c1 := G5.cell (i := 1) rfl
  have G5c2 := G5.cell (i := 2) rfl
  have G7c0 := G7.cell (i := 0) rfl
  have G7c1 := G7.cell (i := 1) rfl
  have G7c2 := G7.cell (i := 2) rfl
  have G9c0 := G9.cell (i := 0) rfl
  have G9c1 := G9.cell (i := 1) rfl
  have G9c2 := G9.cell (i := 2) rfl
  go_wp2_with fail
  clear bx GAc0 GAc1 GAc2 GBc0 GBc1 GBc2 G5c0 G5c1 G5c2 G7c0 G7c1 G7c2 G9c0 G9c1 G9c2
  generalize (v5.alloc (.cells #[.bool p9, .slice a9 m9 k9, .slice b9 n9 l9] 26)) = y5 at GA GB G5 G7 G9 nf5 nd5 nf7 nd7 nf9 nd9 B ⊢
  generalize v5.heap.size = g9 at G9 ⊢
  refine (rdiv_no (zA.behind B) (hD.behind B) (zA'.behind B) (hD'.behind B) (by decide) HN).mono ?_
  rintro e v6 ⟨p11, a11, m11, k11, b11, n11, l11, u11, rfl, nf11, nd11, bb, hu⟩
  subst hu
  obtain ⟨bx, G11, zx⟩ := hbs v6 p11 a11 m11 k11 b11 n11 l11 _ rfl
  replace GA := (GA.behind bb).behind bx
  replace GB := (GB.behind bb).behind bx
  replace G5 := (G5.behind bb).behind bx
  replace G7 := (G7.behind bb).behind bx
  replace G9 := (G9.behind bb).behind bx
  replace nf5 := (nf5.behind bb).behind bx
  replace nd5 := (nd5.behind bb).behind bx
  replace nf7 := (nf7.behind bb).behind bx
  replace nd7 := (nd7.behind bb).behind bx
  replace nf9 := (nf9.behind bb).behind bx
  replace nd9 := (nd9.behind bb).behind bx
  replace nf11 := nf11.behind bx
  replace nd11 := nd11.behind bx
  replace B := below_both (below_both B bb) bx
  clear bb zx
  have GAc0 := GA.cell (i := 0) rfl
  have GAc1 := GA.cell (i := 1) rfl
  have GAc2 := GA.cell (i := 2) rfl
  have GBc0 := GB.cell (i := 0) rfl
  have GBc1 := GB.cell (i := 1) rfl
  have GBc2 := GB.cell (i := 2) rfl
  have G5c0 := G5.cell (i := 0) rfl
  have G5c1 := G5.cell (i := 1) rfl
  have G5c2 := G5.cell (i := 2) rfl
  have G7c0 := G7.cell (i := 0) rfl
  have G7c1 := G7.cell (i := 1) rfl
  have G7c2 := G7.cell (i := 2) rfl
  have G9c0 := G9.cell (i := 0) rfl
  have G9c1 := G9.cell (i := 1) rfl
  have G9c2 := G9.cell (i := 2) rfl
  have G11c0 := G11.cell (i := 0) rfl
  have G11c1 := G11.cell (i := 1) rfl
  have G11c2 := G11.cell (i := 2) rfl
  go_wp2_with fail
  clear bx GAc0 GAc1 GAc2 GBc0 GBc1 GBc2 G5c0 G5c1 G5c2 G7c0 G7c1 G7c2 G9c0 G9c1 G9c2 G11c0 G11c1 G11c2
  generalize (v6.alloc (.cells #[.bool p11, .slice a11 m11 k11, .slice b11 n11 l11] 26)) = y6 at GA GB G5 G7 G9 G11 nf5 nd5 nf7 nd7 nf9 nd9 nf11 nd11 B ⊢
  generalize v6.heap.size = g11 at G11 ⊢
  refine (rcmp_no (zA.behind B) (hD.behind B) (zA'.behind B) (hD'.behind B) (by decide) HN).mono ?_
  rintro e v7 ⟨rfl, bb⟩
  replace GA := GA.behind bb
  replace GB := GB.behind bb
  replace G5 := G5.behind bb
  replace G7 := G7.behind bb
  replace G9 := G9.behind bb
  replace G11 := G11.behind bb
  replace nf5 := nf5.behind bb
  replace nd5 := nd5.behind bb
  replace nf7 := nf7.behind bb
  replace nd7 := nd7.behind bb
  replace nf9 := nf9.behind bb
  replace nd9 := nd9.behind bb
  replace nf11 := nf11.behind bb
  replace nd11 := nd11.behind bb
  replace B := below_both B bb
  clear bb
  have GAc0 := GA.cell (i := 0) rfl
  have GAc1 := GA.cell (i := 1) rfl
  have GAc2 := GA.cell (i := 2) rfl
  have GBc0 := GB.cell (i := 0) rfl
  have GBc1 := GB.cell (i := 1) rfl
  have GBc2 := GB.cell (i := 2) rfl
  have G5c0 := G5.cell (i := 0) rfl
  have G5c1 := G5.cell (i := 1) rfl
  have G5c2 := G5.cell (i := 2) rfl
  have G7c0 := G7.cell (i := 0) rfl
  have G7c1 := G7.cell (i := 1) rfl
  have G7c2 := G7.cell (i := 2) rfl
  have G9c0 := G9.cell (i := 0) rfl
  have G9c1 := G9.cell (i := 1) rfl
  have G9c2 := G9.cell (i := 2) rfl
  have G11c0 := G11.cell (i := 0) rfl
  have G11c1 := G11.cell (i := 1) rfl
  have G11c2 := G11.cell (i := 2) rfl
  go_wp2_with fail
  clear GAc0 GAc1 GAc2 GBc0 GBc1 GBc2 G5c0 G5c1 G5c2 G7c0 G7c1 G7c2 G9c0 G9c1 G9c2 G11c0 G11c1 G11c2
  refine (bits_none (hD.behind B) (by decide) H0.out).mono ?_
  rintro e v8 ⟨rfl, bb⟩
  replace GA := GA.behind bb
  replace GB := GB.behind bb
  replace G5 := G5.behind bb
  replace G7 := G7.behind bb
  replace G9 := G9.behind bb
  replace G11 := G11.behind bb
  replace nf5 := nf5.behind bb
  replace nd5 := nd5.behind bb
  replace nf7 := nf7.behind bb
  replace nd7 := nd7.behind bb
  replace nf9 := nf9.behind bb
  replace nd9 := nd9.behind bb
  replace nf11 := nf11.behind bb
  replace nd11 := nd11.behind bb
  replace B := below_both B bb
  clear bb
  have GAc0 := GA.cell (i := 0) rfl
  have GAc1 := GA.cell (i := 1) rfl
  have GAc2 := GA.cell (i := 2) rfl
  have GBc0 := GB.cell (i := 0) rfl
  have GBc1 := GB.cell (i := 1) rfl
  have GBc2 := GB.cell (i := 2) rfl
  have G5c0 := G5.cell (i := 0) rfl
  have G5c1 := G5.cell (i := 1) rfl
  have G5c2 := G5.cell (i := 2) rfl
  have G7c0 := G7.cell (i := 0) rfl
  have G7c1 := G7.cell (i := 1) rfl
  have G7c2 := G7.cell (i := 2) rfl
  have G9c0 := G9.cell (i := 0) rfl
  have G9c1 := G9.cell (i := 1) rfl
  have G9c2 := G9.cell (i := 2) rfl
  have G11c0 := G11.cell (i := 0) rfl
  have G11c1 := G11.cell (i := 1) rfl
  have G11c2 := G11.cell (i := 2) rfl
  go_wp2_with fail
  clear GAc0 GAc1 GAc2 GBc0 GBc1 GBc2 G5c0 G5c1 G5c2 G7c0 G7c1 G7c2 G9c0 G9c1 G9c2 G11c0 G11c1 G11c2
  refine (lzero_new nf5 nd5).mono ?_
  rintro e v9 ⟨rfl, bb⟩
  replace GA := GA.behind bb
  replace GB := GB.behind bb
  replace G5 := G5.behind bb
  replace G7 := G7.behind bb
  replace G9 := G9.behind bb
  replace G11 := G11.behind bb
  replace nf5 := nf5.behind bb
  replace nd5 := nd5.behind bb
  replace nf7 := nf7.behind bb
  replace nd7 := nd7.behind bb
  replace nf9 := nf9.behind bb
  replace nd9 := nd9.behind bb
  replace nf11 := nf11.behind bb
  replace nd11 := nd11.behind bb
  replace B := below_both B bb
  clear bb
  clear nf5 nd5 G5
  have GAc0 := GA.cell (i := 0) rfl
  have GAc1 := GA.cell (i := 1) rfl
  have GAc2 := GA.cell (i := 2) rfl
  have GBc0 := GB.cell (i := 0) rfl
  have GBc1 := GB.cell (i := 1) rfl
  have GBc2 := GB.cell (i := 2) rfl
  have G7c0 := G7.cell (i := 0) rfl
  have G7c1 := G7.cell (i := 1) rfl
  have G7c2 := G7.cell (i := 2) rfl
  have G9c0 := G9.cell (i := 0) rfl
  have G9c1 := G9.cell (i := 1) rfl
  have G9c2 := G9.cell (i := 2) rfl
  have G11c0 := G11.cell (i := 0) rfl
  have G11c1 := G11.cell (i := 1) rfl
  have G11c2 := G11.cell (i := 2) rfl
  go_wp2_with fail
  clear GAc0 GAc1 GAc2 GBc0 GBc1 GBc2 G7c0 G7c1 G7c2 G9c0 G9c1 G9c2 G11c0 G11c1 G11c2
  refine (lzero_new nf7 nd7).mono ?_
  rintro e v10 ⟨rfl, bb⟩
  replace GA := GA.behind bb
  replace GB := GB.behind bb
  replace G7 := G7.behind bb
  replace G9 := G9.behind bb
  replace G11 := G11.behind bb
  replace nf7 := nf7.behind bb
  replace nd7 := nd7.behind bb
  replace nf9 := nf9.behind bb
  replace nd9 := nd9.behind bb
  replace nf11 := nf11.behind bb
  replace nd11 := nd11.behind bb
  replace B := below_both B bb
  clear bb
  clear nf7 nd7 G7
  have GAc0 := GA.cell (i := 0) rfl
  have GAc1 := GA.cell (i := 1) rfl
  have GAc2 := GA.cell (i := 2) rfl
  have GBc0 := GB.cell (i := 0) rfl
  have GBc1 := GB.cell (i := 1) rfl
  have GBc2 := GB.cell (i := 2) rfl
  have G9c0 := G9.cell (i := 0) rfl
  have G9c1 := G9.cell (i := 1) rfl
  have G9c2 := G9.cell (i := 2) rfl
  have G11c0 := G11.cell (i := 0) rfl
  have G11c1 := G11.cell (i := 1) rfl
  have G11c2 := G11.cell (i := 2) rfl
  go_wp2_with fail
  clear GAc0 GAc1 GAc2 GBc0 GBc1 GBc2 G9c0 G9c1 G9c2 G11c0 G11c1 G11c2
  refine (lzero_new nf9 nd9).mono ?_
  rintro e v11 ⟨rfl, bb⟩
  replace GA := GA.behind bb
  replace GB := GB.behind bb
  replace G9 := G9.behind bb
  replace G11 := G11.behind bb
  replace nf9 := nf9.behind bb
  replace nd9 := nd9.behind bb
  replace nf11 := nf11.behind bb
  replace nd11 := nd11.behind bb
  replace B := below_both B bb
  clear bb
  clear nf9 nd9 G9
  have GAc0 := GA.cell (i := 0) rfl
  have GAc1 := GA.cell (i := 1) rfl
  have GAc2 := GA.cell (i := 2) rfl
  have GBc0 := GB.cell (i := 0) rfl
  have GBc1 := GB.cell (i := 1) rfl
  have GBc2 := GB.cell (i := 2) rfl
  have G11c0 := G11.cell (i := 0) rfl
  have G11c1 := G11.cell (i := 1) rfl
  have G11c2 := G11.cell (i := 2) rfl
  go_wp2_with fail
  clear GAc0 GAc1 GAc2 GBc0 GBc1 GBc2 G11c0 G11c1 G11c2
  refine (lzero_new nf11 nd11).mono ?_
  rintro e v12 ⟨rfl, bb⟩
  replace GA := GA.behind bb
  replace GB := GB.behind bb
  replace G11 := G11.behind bb
  replace nf11 := nf11.behind bb
  replace nd11 := nd11.behind bb
  replace B := below_both B bb
  go_wp2
  go_ret
  exact ⟨rfl, B⟩
set_option maxRecDepth 100000 in
set_option maxHeartbeats 2000000 in
theorem tells5_no1 {s s' : Bool} {a a' b b' : Option Addr} {m c m' c' n k n' k' D D' i : Nat} {x x' : Int} {w : World} (zA : Wv w s a m c x i) (hD : Num w (.slice b n k) D i) (zA' : Wv w s' a' m' c' x' i) (hD' : Num w (.slice b' n' k') D' i) (hT : TabOk w) (HS : Hid ((sm m n && sm m' n') = true)) (H0 : Hid (D ≠ 0)) (H1 : Hid (D' = 0)) :
    Calls Tryd.prog 3 #[.agg #[.bool s, .slice a m c, .slice b n k], .agg #[.bool s', .slice a' m' c', .slice b' n' k']] w fun e W' => e = .returned (.bool true) ∧ Below w.heap.size w W' := by
  have hb := dbox2 w #[.bool s, .slice a m c, .slice b n k] #[.bool s', .slice a' m' c', .slice b' n' k'] 26 26
  have hbs := fun W p a m k b n l => dbox1 W #[.bool p, .slice a m k, .slice b n l] 26
  have hbf := fun W => dbox1 W #[.bool s, .slice a m c, .slice b n k, .bool s', .slice a' m' c', .slice b' n' k'] 26
  have zA0 := zA
  obtain ⟨⟨s1, s2⟩, s3, s4⟩ : (m ≤ 6 ∧ n ≤ 6) ∧ m' ≤ 6 ∧ n' ≤ 6 := by have := HS.out; simp only [sm, Bool.and_eq_true, decide_eq_true_iff] at this; exact this
  replace zA := zA.len s1
  replace zA' := zA'.len s3
  replace hD := num_len hD s2
  replace hD' := num_len hD' s4
  clear s1 s2 s3 s4 zA0
  have HN : Hid (D = 0 ∨ D' = 0) := Lib.hid (.inr H1.out)
  go_enter Tryd.func3, Tryd.ntmps3
  go_wp2_with fail
  obtain ⟨B, GA, GB, hsz⟩ := hb _ rfl
  generalize ((w.alloc (.cells #[.bool s, .slice a m c, .slice b n k] 26)).alloc (.cells #[.bool s', .slice a' m' c', .slice b' n' k'] 26)) = W0 at B GA GB hsz ⊢
  clear hb hsz
  refine (lalive5 (hT.behind B)).mono ?_
  rintro e v1 ⟨rfl, bb⟩
  replace GA := GA.behind bb
  replace GB := GB.behind bb
  replace B := below_both B bb
  have GAc0 := GA.cell (i := 0) rfl
  have GAc1 := GA.cell (i := 1) rfl
  have GAc2 := GA.cell (i := 2) rfl
  have GBc0 := GB.cell (i := 0) rfl
  have GBc1 := GB.cell (i := 1) rfl
  have GBc2 := GB.cell (i := 2) rfl
  go_wp2_with fail
  clear GAc0 GAc1 GAc2 GBc0 GBc1 GBc2
  obtain ⟨bx, S, zx⟩ := hbf v1 _ rfl
  generalize (v1.alloc (.cells #[.bool s, .slice a m c, .slice b n k, .bool s', .slice a' m' c', .slice b' n' k'] 26)) = y1 at bx S zx ⊢
  replace GA := GA.behind bx
  replace GB := GB.behind bx
  replace B := below_both B bx
  clear bx zx hbf
  refine (few_two_is _ _ S HS.out).mono ?_
  rintro e v2 ⟨rfl, bb⟩
  replace GA := GA.behind bb
  replace GB := GB.behind bb
  replace B := below_both B bb
  clear S bb
  have GAc0 := GA.cell (i := 0) rfl
  have GAc1 := GA.cell (i := 1) rfl
  have GAc2 := GA.cell (i := 2) rfl
  have GBc0 := GB.cell (i := 0) rfl
  have GBc1 := GB.cell (i := 1) rfl
  have GBc2 := GB.cell (i := 2) rfl
  go_wp2_with fail
  clear GAc0 GAc1 GAc2 GBc0 GBc1 GBc2
  refine (radd_no (zA.behind B) (hD.behind B) (zA'.behind B) (hD'.behind B) (by decide) HN).mono ?_
  rintro e v3 ⟨p5, a5, m5, k5, b5, n5, l5, u5, rfl, nf5, nd5, bb, hu⟩
  subst hu
  obtain ⟨bx, G5, zx⟩ := hbs v3 p5 a5 m5 k5 b5 n5 l5 _ rfl
  replace GA := (GA.behind bb).behind bx
  replace GB := (GB.behind bb).behind bx
  replace nf5 := nf5.behind bx
  replace nd5 := nd5.behind bx
  replace B := below_both (below_both B bb) bx
  clear bb zx
  have GAc0 := GA.cell (i := 0) rfl
  have GAc1 := GA.cell (i := 1) rfl
  have GAc2 := GA.cell (i := 2) rfl
  have GBc0 := GB.cell (i := 0) rfl
  have GBc1 := GB.cell (i := 1) rfl
  have GBc2 := GB.cell (i := 2) rfl
  have G5c0 := G5.cell (i := 0) rfl
  have G5c1 := G5.cell (i := 1) rfl
  have G5c2 := G5.cell (i := 2) rfl
  go_wp2_with fail
  clear bx GAc0 GAc1 GAc2 GBc0 GBc1 GBc2 G5c0 G5c1 G5c2
  generalize (v3.alloc (.cells #[.bool p5, .slice a5 m5 k5, .slice b5 n5 l5] 26)) = y3 at GA GB G5 nf5 nd5 B ⊢
  generalize v3.heap.size = g5 at G5 ⊢
  refine (rsub_no (zA.behind B) (hD.behind B) (zA'.behind B) (hD'.behind B) (by decide) HN).mono ?_
  rintro e v4 ⟨p7, a7, m7, k7, b7, n7, l7, u7, rfl, nf7, nd7, bb, hu⟩
  subst hu
  obtain ⟨bx, G7, zx⟩ := hbs v4 p7 a7 m7 k7 b7 n7 l7 _ rfl
  replace GA := (GA.behind bb).behind bx
  replace GB := (GB.behind bb).behind bx
  replace G5 := (G5.behind bb).behind bx
  replace nf5 := (nf5.behind bb).behind bx
  replace nd5 := (nd5.behind bb).behind bx
  replace nf7 := nf7.behind bx
  replace nd7 := nd7.behind bx
  replace B := below_both (below_both B bb) bx
  clear bb zx
  have GAc0 := GA.cell (i := 0) rfl
  have GAc1 := GA.cell (i := 1) rfl
  have GAc2 := GA.cell (i := 2) rfl
  have GBc0 := GB.cell (i := 0) rfl
  have GBc1 := GB.cell (i := 1) rfl
  have GBc2 := GB.cell (i := 2) rfl
  have G5c0 := G5.cell (i := 0) rfl
  have G5c1 := G5.cell (i := 1) rfl
  have G5c2 := G5.cell (i := 2) rfl
  have G7c0 := G7.cell (i := 0) rfl
  have G7c1 := G7.cell (i := 1) rfl
  have G7c2 := G7.cell (i := 2) rfl
  go_wp2_with fail
  clear bx GAc0 GAc1 GAc2 GBc0 GBc1 GBc2 G5c0 G5c1 G5c2 G7c0 G7c1 G7c2
  generalize (v4.alloc (.cells #[.bool p7, .slice a7 m7 k7, .slice b7 n7 l7] 26)) = y4 at GA GB G5 G7 nf5 nd5 nf7 nd7 B ⊢
  generalize v4.heap.size = g7 at G7 ⊢
  refine (rmul_no (zA.behind B) (hD.behind B) (zA'.behind B) (hD'.behind B) (by decide) HN).mono ?_
  rintro e v5 ⟨p9, a9, m9, k9, b9, n9, l9, u9, rfl, nf9, nd9, bb, hu⟩
  subst hu
  obtain ⟨bx, G9, zx⟩ := hbs v5 p9 a9 m9 k9 b9 n9 l9 _ rfl
  replace GA := (GA.behind bb).behind bx
  replace GB := (GB.behind bb).behind bx
  replace G5 := (G5.behind bb).behind bx
  replace G7 := (G7.behind bb).behind bx
  replace nf5 := (nf5.behind bb).behind bx
  replace nd5 := (nd5.behind bb).behind bx
  replace nf7 := (nf7.behind bb).behind bx
  replace nd7 := (nd7.behind bb).behind bx
  replace nf9 := nf9.behind bx
  replace nd9 := nd9.behind bx
  replace B := below_both (below_both B bb) bx
  clear bb zx
  have GAc0 := GA.cell (i := 0) rfl
  have GAc1 := GA.cell (i := 1) rfl
  have GAc2 := GA.cell (i := 2) rfl
  have GBc0 := GB.cell (i := 0) rfl
  have GBc1 := GB.cell (i := 1) rfl
  have GBc2 := GB.cell (i := 2) rfl
  have G5c0 := G5.cell (i := 0) rfl
  have G5c1 := G5.cell (i := 1) rfl
  have G5c2 := G5.cell (i := 2) rfl
  have G7c0 := G7.cell (i := 0) rfl
  have G7c1 := G7.cell (i := 1) rfl
  have G7c2 := G7.cell (i := 2) rfl
  have G9c0 := G9.cell (i := 0) rfl
  have G9c1 := G9.cell (i := 1) rfl
  have G9c2 := G9.cell (i := 2) rfl
  go_wp2_with fail
  clear bx GAc0 GAc1 GAc2 GBc0 GBc1 GBc2 G5c0 G5c1 G5c2 G7c0 G7c1 G7c2 G9c0 G9c1 G9c2
  generalize (v5.alloc (.cells #[.bool p9, .slice a9 m9 k9, .slice b9 n9 l9] 26)) = y5 at GA GB G5 G7 G9 nf5 nd5 nf7 nd7 nf9 nd9 B ⊢
  generalize v5.heap.size = g9 at G9 ⊢
  refine (rdiv_no (zA.behind B) (hD.behind B) (zA'.behind B) (hD'.behind B) (by decide) HN).mono ?_
  rintro e v6 ⟨p11, a11, m11, k11, b11, n11, l11, u11, rfl, nf11, nd11, bb, hu⟩
  subst hu
  obtain ⟨bx, G11, zx⟩ := hbs v6 p11 a11 m11 k11 b11 n11 l11 _ rfl
  replace GA := (GA.behind bb).behind bx
  replace GB := (GB.behind bb).behind bx
  replace G5 := (G5.behind bb).behind bx
  replace G7 := (G7.behind bb).behind bx
  replace G9 := (G9.behind bb).behind bx
  replace nf5 := (nf5.behind bb).behind bx
  replace nd5 := (nd5.behind bb).behind bx
  replace nf7 := (nf7.behind bb).behind bx
  replace nd7 := (nd7.behind bb).behind bx
  replace nf9 := (nf9.behind bb).behind bx
  replace nd9 := (nd9.behind bb).behind bx
  replace nf11 := nf11.behind bx
  replace nd11 := nd11.behind bx
  replace B := below_both (below_both B bb) bx
  clear bb zx
  have GAc0 := GA.cell (i := 0) rfl
  have GAc1 := GA.cell (i := 1) rfl
  have GAc2 := GA.cell (i := 2) rfl
  have GBc0 := GB.cell (i := 0) rfl
  have GBc1 := GB.cell (i := 1) rfl
  have GBc2 := GB.cell (i := 2) rfl
  have G5c0 := G5.cell (i := 0) rfl
  have G5c1 := G5.cell (i := 1) rfl
  have G5c2 := G5.cell (i := 2) rfl
  have G7c0 := G7.cell (i := 0) rfl
  have G7c1 := G7.cell (i := 1) rfl
  have G7c2 := G7.cell (i := 2) rfl
  have G9c0 := G9.cell (i := 0) rfl
  have G9c1 := G9.cell (i := 1) rfl
  have G9c2 := G9.cell (i := 2) rfl
  have G11c0 := G11.cell (i := 0) rfl
  have G11c1 := G11.cell (i := 1) rfl
  have G11c2 := G11.cell (i := 2) rfl
  go_wp2_with fail
  clear bx GAc0 GAc1 GAc2 GBc0 GBc1 GBc2 G5c0 G5c1 G5c2 G7c0 G7c1 G7c2 G9c0 G9c1 G9c2 G11c0 G11c1 G11c2
  generalize (v6.alloc (.cells #[.bool p11, .slice a11 m11 k11, .slice b11 n11 l11] 26)) = y6 at GA GB G5 G7 G9 G11 nf5 nd5 nf7 nd7 nf9 nd9 nf11 nd11 B ⊢
  generalize v6.heap.size = g11 at G11 ⊢
  refine (rcmp_no (zA.behind B) (hD.behind B) (zA'.behind B) (hD'.behind B) (by decide) HN).mono ?_
  rintro e v7 ⟨rfl, bb⟩
  replace GA := GA.behind bb
  replace GB := GB.behind bb
  replace G5 := G5.behind bb
  replace G7 := G7.behind bb
  replace G9 := G9.behind bb
  replace G11 := G11.behind bb
  replace nf5 := nf5.behind bb
  replace nd5 := nd5.behind bb
  replace nf7 := nf7.behind bb
  replace nd7 := nd7.behind bb
  replace nf9 := nf9.behind bb
  replace nd9 := nd9.behind bb
  replace nf11 := nf11.behind bb
  replace nd11 := nd11.behind bb
  replace B := below_both B bb
  clear bb
  have GAc0 := GA.cell (i := 0) rfl
  have GAc1 := GA.cell (i := 1) rfl
  have GAc2 := GA.cell (i := 2) rfl
  have GBc0 := GB.cell (i := 0) rfl
  have GBc1 := GB.cell (i := 1) rfl
  have GBc2 := GB.cell (i := 2) rfl
  have G5c0 := G5.cell (i := 0) rfl
  have G5c1 := G5.cell (i := 1) rfl
  have G5c2 := G5.cell (i := 2) rfl
  have G7c0 := G7.cell (i := 0) rfl
  have G7c1 := G7.cell (i := 1) rfl
  have G7c2 := G7.cell (i := 2) rfl
  have G9c0 := G9.cell (i := 0) rfl
  have G9c1 := G9.cell (i := 1) rfl
  have G9c2 := G9.cell (i := 2) rfl
  have G11c0 := G11.cell (i := 0) rfl
  have G11c1 := G11.cell (i := 1) rfl
  have G11c2 := G11.cell (i := 2) rfl
  go_wp2_with fail
  clear GAc0 GAc1 GAc2 GBc0 GBc1 GBc2 G5c0 G5c1 G5c2 G7c0 G7c1 G7c2 G9c0 G9c1 G9c2 G11c0 G11c1 G11c2
  refine (bits_may (hD.behind B) (by decide) H0.out).mono ?_
  rintro e v8 ⟨q0, rfl, hq0, bb⟩
  replace GA := GA.behind bb
  replace GB := GB.behind bb
  replace G5 := G5.behind bb
  replace G7 := G7.behind bb
  replace G9 := G9.behind bb
  replace G11 := G11.behind bb
  replace nf5 := nf5.behind bb
  replace nd5 := nd5.behind bb
  replace nf7 := nf7.behind bb
  replace nd7 := nd7.behind bb
  replace nf9 := nf9.behind bb
  replace nd9 := nd9.behind bb
  replace nf11 := nf11.behind bb
  replace nd11 := nd11.behind bb
  replace B := below_both B bb
  clear bb
  have GAc0 := GA.cell (i := 0) rfl
  have GAc1 := GA.cell (i := 1) rfl
  have GAc2 := GA.cell (i := 2) rfl
  have GBc0 := GB.cell (i := 0) rfl
  have GBc1 := GB.cell (i := 1) rfl
  have GBc2 := GB.cell (i := 2) rfl
  have G5c0 := G5.cell (i := 0) rfl
  have G5c1 := G5.cell (i := 1) rfl
  have G5c2 := G5.cell (i := 2) rfl
  have G7c0 := G7.cell (i := 0) rfl
  have G7c1 := G7.cell (i := 1) rfl
  have G7c2 := G7.cell (i := 2) rfl
  have G9c0 := G9.cell (i := 0) rfl
  have G9c1 := G9.cell (i := 1) rfl
  have G9c2 := G9.cell (i := 2) rfl
  have G11c0 := G11.cell (i := 0) rfl
  have G11c1 := G11.cell (i := 1) rfl
  have G11c2 := G11.cell (i := 2) rfl
  go_wp2_with fail
  clear GAc0 GAc1 GAc2 GBc0 GBc1 GBc2 G5c0 G5c1 G5c2 G7c0 G7c1 G7c2 G9c0 G9c1 G9c2 G11c0 G11c1 G11c2
  refine (bits_none (hD'.behind B) (by decide) H1.out).mono ?_
  rintro e v9 ⟨rfl, bb⟩
  replace GA := GA.behind bb
  replace GB := GB.behind bb
  replace G5 := G5.behind bb
  replace G7 := G7.behind bb
  replace G9 := G9.behind bb
  replace G11 := G11.behind bb
  replace nf5 := nf5.behind bb
  replace nd5 := nd5.behind bb
  replace nf7 := nf7.behind bb
  replace nd7 := nd7.behind bb
  replace nf9 := nf9.behind bb
  replace nd9 := nd9.behind bb
  replace nf11 := nf11.behind bb
  replace nd11 := nd11.behind bb
  replace B := below_both B bb
  clear bb
  have GAc0 := GA.cell (i := 0) rfl
  have GAc1 := GA.cell (i := 1) rfl
  have GAc2 := GA.cell (i := 2) rfl
  have GBc0 := GB.cell (i := 0) rfl
  have GBc1 := GB.cell (i := 1) rfl
  have GBc2 := GB.cell (i := 2) rfl
  have G5c0 := G5.cell (i := 0) rfl
  have G5c1 := G5.cell (i := 1) rfl
  have G5c2 := G5.cell (i := 2) rfl
  have G7c0 := G7.cell (i := 0) rfl
  have G7c1 := G7.cell (i := 1) rfl
  have G7c2 := G7.cell (i := 2) rfl
  have G9c0 := G9.cell (i := 0) rfl
  have G9c1 := G9.cell (i := 1) rfl
  have G9c2 := G9.cell (i := 2) rfl
  have G11c0 := G11.cell (i := 0) rfl
  have G11c1 := G11.cell (i := 1) rfl
  have G11c2 := G11.cell (i := 2) rfl
  go_wp2_with fail
  clear GAc0 GAc1 GAc2 GBc0 GBc1 GBc2 G5c0 G5c1 G5c2 G7c0 G7c1 G7c2 G9c0 G9c1 G9c2 G11c0 G11c1 G11c2
  refine (lzero_new nf5 nd5).mono ?_
  rintro e v10 ⟨rfl, bb⟩
  replace GA := GA.behind bb
  replace GB := GB.behind bb
  replace G5 := G5.behind bb
  replace G7 := G7.behind bb
  replace G9 := G9.behind bb
  replace G11 := G11.behind bb
  replace nf5 := nf5.behind bb
  replace nd5 := nd5.behind bb
  replace nf7 := nf7.behind bb
  replace nd7 := nd7.behind bb
  replace nf9 := nf9.behind bb
  replace nd9 := nd9.behind bb
  replace nf11 := nf11.behind bb
  replace nd11 := nd11.behind bb
  replace B := below_both B bb
  clear bb
  clear nf5 nd5 G5
  have GAc0 := GA.cell (i := 0) rfl
  have GAc1 := GA.cell (i := 1) rfl
  have GAc2 := GA.cell (i := 2) rfl
  have GBc0 := GB.cell (i := 0) rfl
  have GBc1 := GB.cell (i := 1) rfl
  have GBc2 := GB.cell (i := 2) rfl
  have G7c0 := G7.cell (i := 0) rfl
  have G7c1 := G7.cell (i := 1) rfl
  have G7c2 := G7.cell (i := 2) rfl
  have G9c0 := G9.cell (i := 0) rfl
  have G9c1 := G9.cell (i := 1) rfl
  have G9c2 := G9.cell (i := 2) rfl
  have G11c0 := G11.cell (i := 0) rfl
  have G11c1 := G11.cell (i := 1) rfl
  have G11c2 := G11.cell (i := 2) rfl
  go_wp2_with fail
  clear GAc0 GAc1 GAc2 GBc0 GBc1 GBc2 G7c0 G7c1 G7c2 G9c0 G9c1 G9c2 G11c0 G11c1 G11c2
  refine (lzero_new nf7 nd7).mono ?_
  rintro e v11 ⟨rfl, bb⟩
  replace GA := GA.behind bb
  replace GB := GB.behind bb
  replace G7 := G7.behind bb
  replace G9 := G9.behind bb
  replace G11 := G11.behind bb
  replace nf7 := nf7.behind bb
  replace nd7 := nd7.behind bb
  replace nf9 := nf9.behind bb
  replace nd9 := nd9.behind bb
  replace nf11 := nf11.behind bb
  replace nd11 := nd11.behind bb
  replace B := below_both B bb
  clear bb
  clear nf7 nd7 G7
  have GAc0 := GA.cell (i := 0) rfl
  have GAc1 := GA.cell (i := 1) rfl
  have GAc2 := GA.cell (i := 2) rfl
  have GBc0 := GB.cell (i := 0) rfl
  have GBc1 := GB.cell (i := 1) rfl
  have GBc2 := GB.cell (i := 2) rfl
  have G9c0 := G9.cell (i := 0) rfl
  have G9c1 := G9.cell (i := 1) rfl
  have G9c2 := G9.cell (i := 2) rfl
  have G11c0 := G11.cell (i := 0) rfl
  have G11c1 := G11.cell (i := 1) rfl
  have G11c2 := G11.cell (i := 2) rfl
  go_wp2_with fail
  clear GAc0 GAc1 GAc2 GBc0 GBc1 GBc2 G9c0 G9c1 G9c2 G11c0 G11c1 G11c2
  refine (lzero_new nf9 nd9).mono ?_
  rintro e v12 ⟨rfl, bb⟩
  replace GA := GA.behind bb
  replace GB := GB.behind bb
  replace G9 := G9.behind bb
  replace G11 := G11.behind bb
  replace nf9 := nf9.behind bb
  replace nd9 := nd9.behind bb
  replace nf11 := nf11.behind bb
  replace nd11 := nd11.behind bb
  replace B := below_both B bb
  clear bb
  clear nf9 nd9 G9
  have GAc0 := GA.cell (i := 0) rfl
  have GAc1 := GA.cell (i := 1) rfl
  have GAc2 := GA.cell (i := 2) rfl
  have GBc0 := GB.cell (i := 0) rfl
  have GBc1 := GB.cell (i := 1) rfl
  have GBc2 := GB.cell (i := 2) rfl
  have G11c0 := G11.cell (i := 0) rfl
  have G11c1 := G11.cell (i := 1) rfl
  have G11c2 := G11.cell (i := 2) rfl
  go_wp2_with fail
  clear GAc0 GAc1 GAc2 GBc0 GBc1 GBc2 G11c0 G11c1 G11c2
  refine (lzero_new nf11 nd11).mono ?_
  rintro e v13 ⟨rfl, bb⟩
  replace GA := GA.behind bb
  replace GB := GB.behind bb
  replace G11 := G11.behind bb
  replace nf11 := nf11.behind bb
  replace nd11 := nd11.behind bb
  replace B := below_both B bb
  go_wp2
  go_ret
  exact ⟨rfl, B⟩
end Go.Proofs.YtfbnpdlkbabmfaaDoor
