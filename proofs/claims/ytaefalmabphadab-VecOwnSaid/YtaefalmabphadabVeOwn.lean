/- vernierlaw19.VecOwn, walked. -/
import Derived.Test.YtaefalmabphadabVeLar
import Derived.Test.YtaefalmabphadabVeAdd
import Derived.Laws.AppendOwnNone
namespace Go.Proofs.Ytaefalmabphadab
open Go.RowKit Go.Shelf
/-- append(own, xs...), whatever list comes in -/
theorem app_arg {ops : Array Oper} {rest : List Oper} {o : Oper} {a : Act} {Q : Exit → Act → World → Prop} {W : World} (hgd : o.guard = none) (s x : Operand)
    (ho : o.op = .call { callee := .builtin .append, args := #[s, x], argTypes := #[40, 40] }) {b : Nat} {v u : Value} {zs : List Int} {xs : List Nat} (hs : a.eval s = v) (hx : a.eval x = u) (hA : Arg W u xs) (hsh : u = .slice none 0 0 ∨ ∃ ad m c, u = .slice (some ad) m c)
    (hown : OwnK .u64 42 b W v zs) (hlen : zs.length + xs.length ≤ 17592186044416) (hb : b ≤ W.heap.size)
    (h : ∀ v' w', OwnK .u64 42 b w' v' (zs ++ zn xs) → Below b W w' → wpList Try.prog ops Q rest (a.put o.dst v') w') : wpList Try.prog ops Q (o :: rest) a W := by
  obtain ⟨i0, hi, hz0, hz1, hz2⟩ := info_parts info_u64
  have hl := valsK_length .u64 zs
  obtain ⟨d, hd, hI⟩ := hA
  have key : ∀ (ad : Addr) (cap : Nat), u = .slice (some ad) xs.length cap → (∀ j v, (valsK .u64 (zn xs))[j]? = some v → W.cell? (ad.add j) = some v) → wpList Try.prog ops Q (o :: rest) a W := by
    intro ad cap hu hnews
    refine wpList_append_own _ hgd s x 40 ho b 42 i0 (.int .u64 0) 1 8 Try.underlying40 hi hz0 hz1 hz2 rfl (by decide) v zs.length (valsK .u64 zs) hs hown ad xs.length cap (valsK .u64 (zn xs)) (hx.trans hu) (by rw [valsK_length, zn_length, Nat.mul_one]) hnews (by intro u hu; obtain ⟨x, _, rfl⟩ := List.mem_map.1 hu; rfl) (by simp only [maxLen]; omega) (by omega) hb ?_
    intro v' w' h1 h2 _
    refine h v' w' ?_ (below_grown h2 hb fun q hq => (World.ownsRow.lt hown q hq).1)
    unfold OwnK
    rw [List.length_append, zn_length, show valsK .u64 (zs ++ zn xs) = valsK .u64 zs ++ valsK .u64 (zn xs) from by simp [valsK]]
    exact h1
  rcases hI with ⟨⟨ao, cap, hu⟩, rfl⟩ | ⟨off, cap, hu, hlc, hc⟩
  · cases ao with
    | some ad => exact key ad cap hu (fun j v hv => by simp [zn, valsK] at hv)
    | none =>
      by_cases hc0 : cap = 0
      · subst hc0
        refine wpList_append_own_none hgd s x 40 ho b 42 i0 1 Try.underlying40 hi v zs.length (valsK .u64 zs) hs hown (hx.trans hu) ?_
        refine h v W ?_ (Below.refl _ _)
        simpa [zn] using hown
      · rcases hsh with h1 | ⟨ad, m, c, h1⟩
        · rw [hu] at h1; simp only [Value.slice.injEq] at h1; exact absurd h1.2.2 hc0
        · rw [hu] at h1; simp at h1
  · refine key ⟨d, off, none⟩ cap hu ?_
    intro j v hv
    have hj : j < xs.length := by
      rcases Nat.lt_or_ge j xs.length with h | h
      · exact h
      · rw [List.getElem?_eq_none (by rw [valsK_length, zn_length]; exact h)] at hv; cases hv
    rw [valsK_get (by rw [zn_length]; exact hj), zn_at hj] at hv
    have ha : (⟨d, off, none⟩ : Addr).add j = ⟨d, off + j, none⟩ := by unfold Addr.add; split <;> simp_all
    rw [ha, hc j hj]
    exact hv
set_option maxRecDepth 100000 in
set_option maxHeartbeats 16000000 in
theorem vecOwn_calls {va vb : Value} {xs ys : List Nat} {a : Nat} {w : World} (ha : (a : Int) ≤ 18446744073709551615) (hX : Arg w va xs) (hY : Arg w vb ys) (hx : Low 18446744073709551616 xs) (hy : Low 18446744073709551616 ys) (hxn : xs.length ≤ 17592186044416) (hyn : ys.length ≤ 17592186044416)
    (hsx : va = .slice none 0 0 ∨ ∃ ad m c, va = .slice (some ad) m c) (hsy : vb = .slice none 0 0 ∨ ∃ ad m c, vb = .slice (some ad) m c) :
    Calls Try.prog 9 #[.int .u64 (a : Int), va, vb] w fun e W' => e = .returned (.bool true) ∧ Below w.heap.size w W' := by
  have hal := l_alive19 w
  have hpos : 0 < w.heap.size := by obtain ⟨S, hS, _⟩ := hX; omega
  have HX := Lib.hid hX
  have HY := Lib.hid hY
  have HSX := Lib.hid hsx
  have HSY := Lib.hid hsy
  obtain ⟨xa, xc, hxv⟩ := hX.slice
  obtain ⟨ya, yc, hyv⟩ := hY.slice
  -- what Add and Scal tell, of these lists wherever they lie
  obtain ⟨EA, hEA⟩ : ∃ E, E = tellV (addV xs ys) (bothV xs ys 0) := ⟨_, rfl⟩
  obtain ⟨RA, hRA⟩ : ∃ R : List Nat, R = if tellV (addV xs ys) (bothV xs ys 0) = 0 then addV xs ys else [] := ⟨_, rfl⟩
  obtain ⟨ES, hES⟩ : ∃ E, E = tellV (scalV a xs) (bothV xs xs (nfE a)) := ⟨_, rfl⟩
  obtain ⟨RS, hRS⟩ : ∃ R : List Nat, R = if tellV (scalV a xs) (bothV xs xs (nfE a)) = 0 then scalV a xs else [] := ⟨_, rfl⟩
  have hADD := fun (W : World) (u v : Value) (h1 : Arg W u xs) (h2 : Arg W v ys) => vec_addv h1 h2 hx hy hxn hyn
  have hSCA := fun (W : World) (u : Value) (h1 : Arg W u xs) => vec_scal ha h1 hx hxn
  rw [← hRA, ← hEA] at hADD
  rw [← hRS, ← hES] at hSCA
  have hrl : RA.length ≤ 17592186044416 ∧ RS.length ≤ 17592186044416 := by
    constructor
    · rw [hRA]; split
      · unfold addV; rw [rowV_length]; omega
      · simp
    · rw [hRS]; split
      · unfold scalV; rw [rowV_length]; omega
      · simp
  have HADD := Lib.hid hADD
  have HSCA := Lib.hid hSCA
  have dA : (EA == EA) = true := by simp
  have dS : (ES == ES) = true := by simp
  have hown0 := fun W : World => World.ownsRow_lit (base := W.heap.size) (e := 42) (size := 1) W #[] 0 (Nat.le_refl _) (by simp [maxLen]) rfl
  have HOWN0 : Hid (∀ W : World, OwnK .u64 42 W.heap.size (W.alloc (.cells #[] 42)) (.slice (some ⟨W.heap.size, 0, none⟩) 0 0) []) := Lib.hid hown0
  have HUP := Lib.hid (fun k => show upd (fun _ => 7) xs (k + 1) = (upd (fun _ => 7) xs k).set k 7 from upd_succ)
  have HU0 := Lib.hid (upd_zero (fun _ => 7) xs)
  have HUL := Lib.hid (fun k => upd_length (fun _ => 7) xs k)
  generalize upd (fun _ => 7) xs = F at *
  clear hEA hRA hES hRS hADD hSCA hX hY hx hy hsx hsy hown0 ha
  subst hxv hyv
  generalize hmx : xs.length = m at *
  have HMX := Lib.hid hmx
  generalize hmy : ys.length = n at *
  have HMY := Lib.hid hmy
  clear hmx hmy
  go_enter Try.func9, Try.ntmps9
  go_wp2_with fail
  refine hal.mono ?_
  rintro e w1 ⟨rfl, b1⟩
  clear hal
  have hc0 := HOWN0.out w1
  have bc0 := bel_new' w1 (.cells #[] 42)
  go_wp2_with (at_builtin; first
    | (refine app_arg rfl _ _ rfl rfl rfl ((HX.out.behind b1).behind bc0) HSX.out hc0 (by rw [HMX.out]; simp; omega) (by simp) ?_; intro v1 w2 hO1 bo1; have B2 := below_both b1 (bc0.trans bo1); have hc2 := HOWN0.out w2; have bc2 := bel_new' w2 (.cells #[] 42))
    | (refine app_arg rfl _ _ rfl rfl rfl ((HY.out.behind B2).behind bc2) HSY.out hc2 (by rw [HMY.out]; simp; omega) (by simp) ?_; intro v2 w3 hO2 bo2))
  have B3 := below_both B2 (bc2.trans bo2)
  have b23 := bc2.trans bo2
  have HO1 := hO1.below b23
  have hlt1 := fun g (hg : v1.ownBlock = some g) => (World.ownsRow.lt hO1 g hg).2
  have hs23 := b23.size
  have hs01 := b1.size
  clear hc0 bc0 hO1 bo1 hc2 bc2 bo2 b1
  rw [List.nil_append] at HO1 hO2
  obtain ⟨oa, oc, hof⟩ := HO1.len
  rw [zn_length, HMX.out] at hof
  have hp3 := Nat.lt_of_lt_of_le hpos B3.size
  have hP := (new_zn.2 (HO1.new hp3)).arg
  have hQ := (new_zn.2 (hO2.new hp3)).arg
  subst hof
  have HP := Lib.hid hP
  have HQ := Lib.hid hQ
  clear hP hQ
  go_wp2_with fail
  refine (HADD.out _ _ _ HP.out HQ.out).mono ?_
  rintro e w4 ⟨l, rfl, hL, b4⟩
  go_wp2_with fail
  refine (HSCA.out _ _ (HP.out.behind b4)).mono ?_
  rintro e w5 ⟨mm, rfl, hM, b5⟩
  have b35 := below_both b4 b5
  have B5 := below_both B3 b35
  go_wp2_with fail
  refine (same_arg (HP.out.behind b35) (HX.out.behind B5) (by rw [HMX.out]; omega)).mono ?_
  rintro e w6 ⟨rfl, b6⟩
  go_wp2_with fail
  refine (same_arg (HQ.out.behind (below_both b35 b6)) (HY.out.behind (below_both B5 b6)) (by rw [HMY.out]; omega)).mono ?_
  rintro e w7 ⟨rfl, b7⟩
  have b37 := below_both b35 (below_both b6 b7)
  have B7 := below_both B3 b37
  have O7 := HO1.below b37
  have L7 := (hL.below b5).below (below_both b6 b7)
  have M7 := (hM.mono b4.size).below (below_both b6 b7)
  clear HO1 hO2 hL hM b4 b5 b35 b6 b7 HP HQ
  go_wp2_with fail
  go_loopw [13] (fun i wr => ∃ k : Nat, k ≤ m ∧ i = .int .i64 k ∧ OwnK .u64 42 w1.heap.size wr (.slice oa m oc) (zn (F k)) ∧ OwnK .u64 42 w3.heap.size wr l (zn RA) ∧ OwnK .u64 42 w3.heap.size wr mm (zn RS) ∧ Below w.heap.size w wr) (fun i _ => m - (intOf i).toNat)
  case atStart => exact ⟨0, Nat.zero_le _, rfl, by rw [HU0.out]; exact O7, L7, M7, B7⟩
  case round =>
    obtain ⟨k, hk, rfl, hOk, hLk, hMk, hB⟩ := hrel
    by_cases hlt : k < m
    · obtain ⟨g, gc, hge, hgb, hgl⟩ := hOk.form (by rw [zn_length, HUL.out]; omega)
      rw [zn_length, HUL.out] at hge
      simp only [Value.slice.injEq, true_and] at hge
      obtain ⟨rfl, rfl⟩ := hge
      have hcel := hOk.cell (j := k) (by rw [zn_length, HUL.out]; exact hlt)
      have hfz := hOk.frozen k
      have hg3 : g < w3.heap.size := by have h := hlt1 g rfl; omega
      go_wp2_with fail
      go_roundw
      case rel =>
        refine ⟨k + 1, by omega, by simp, ?_, ?_, ?_, ?_⟩
        · rw [HUP.out, zn_set]
          exact OwnK.set hOk _ _
        · exact hLk.far hg3 _
        · exact hMk.far hg3 _
        · exact hB.setCell (p := ⟨_, _, none⟩) (by show _ ≤ g; omega) _
      case measure => simp [intOf]; omega
    · obtain rfl : k = m := by omega
      have hpr := Nat.lt_of_lt_of_le hpos hB.size
      clear hlt hlt1
      go_wp2_with fail
      refine (HADD.out _ _ _ (HX.out.behind hB) (HY.out.behind hB)).mono ?_
      rintro e w8 ⟨n1, rfl, hN, b8⟩
      go_wp2_with fail
      refine (HSCA.out _ _ ((HX.out.behind hB).behind b8)).mono ?_
      rintro e w9 ⟨k1, rfl, hK, b9⟩
      have b89 := below_both b8 b9
      have hp9 := Nat.lt_of_lt_of_le hpr b89.size
      have hN9 := (new_zn.2 ((hN.below b9).new hp9)).arg
      have hK9 := (new_zn.2 (hK.new hp9)).arg
      have hL9 := (new_zn.2 ((hLk.below b89).new hp9)).arg
      have hM9 := (new_zn.2 ((hMk.below b89).new hp9)).arg
      have HN9 := Lib.hid hN9
      have HK9 := Lib.hid hK9
      have HL9 := Lib.hid hL9
      have HM9 := Lib.hid hM9
      clear hN hK hN9 hK9 hL9 hM9 hLk hMk hOk
      go_wp2_with fail
      refine (same_arg HL9.out HN9.out (by omega)).mono ?_
      rintro e w10 ⟨rfl, b10⟩
      go_wp2_with fail
      refine (same_arg (HM9.out.behind b10) (HK9.out.behind b10) (by omega)).mono ?_
      rintro e w11 ⟨rfl, b11⟩
      go_wp2
      go_ret
      exact ⟨rfl, below_both hB (below_both b89 (below_both b10 b11))⟩
end Go.Proofs.Ytaefalmabphadab
