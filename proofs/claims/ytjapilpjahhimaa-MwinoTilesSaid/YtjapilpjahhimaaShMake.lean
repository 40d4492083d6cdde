/- shape: matrices that are made: build, Identity, Transpose; At; Same. -/
import Derived.Test.YtjapilpjahhimaaShSpec
namespace Go.Proofs.Ytjapilpjahhimaa
open Go.RowKit Go.Shelf
set_option maxRecDepth 100000 in
set_option maxHeartbeats 4000000 in
/-- build, with a closure that tells the word of each place -/
theorem shape_build {R C k : Nat} {fs : Array Value} (g : Nat → Nat → Nat) {w : World} (hR : 1 ≤ R ∧ R ≤ 64) (hC : 1 ≤ C ∧ C ≤ 64)
    (he : Enters k) (hf : ∀ (i j : Nat) (W : World), i < R → j < C → Below w.heap.size w W → Calls Try.prog k (#[.int .i64 (i : Int), .int .i64 (j : Int)] ++ fs) W fun e W' => e = .returned (.int .u64 (g i j : Int)) ∧ Below W.heap.size W W') :
    Calls Try.prog 63 #[.int .i64 (R : Int), .int .i64 (C : Int), .func (.func k) #[] fs] w fun e W' => ∃ b c, e = .returned (.tuple #[.agg #[.int .i64 (R : Int), .int .i64 (C : Int), .slice b (R * C) c], .int .i64 0]) ∧ New w.heap.size W' (.slice b (R * C) c) (tab R C g) ∧ Below w.heap.size w W' := by
  obtain ⟨bx, G⟩ := mbox w #[.int .i64 0, .int .i64 0, .slice none 0 0] 24 _ rfl
  have hms : ∀ w, Calls Try.prog 71 #[.int .i64 (R : Int), .int .i64 (C : Int)] w fun e W' => e = .returned (.bool true) ∧ w = W' := fun w => by
    have := shape_may (R := R) (C := C) (w := w)
    rwa [mayS_iff.2 ⟨by omega, by omega, by omega, by omega⟩] at this
  have hrc : R * C ≤ 4096 := by have := Nat.mul_le_mul hR.2 hC.2; omega
  have hwp : IntKind.i64.wrap ((R : Int) * (C : Int)) = ((R * C : Nat) : Int) := by rw [Int.natCast_mul]; exact IntWalk.i64_in _ (by omega)
  have hmk := make0_u64 (R * C) (by omega)
  have HF := Lib.hid hf
  have HOWN := Lib.hid (own0_u64 (R * C) (by omega))
  have HEN := Lib.hid he
  clear hf he
  have hw0 : w.heap.size < (w.alloc (.cells #[.int .i64 0, .int .i64 0, .slice none 0 0] 24)).heap.size := by rw [World.size_alloc]; omega
  generalize hN : R * C = N at *
  have HN := Lib.hid hN
  clear hN
  go_enter Try.func63, Try.ntmps63
  go_wp2_with fail
  generalize w.alloc (.cells #[.int .i64 0, .int .i64 0, .slice none 0 0] 24) = W0 at *
  have hm1 := hmk W0
  clear hmk
  refine (hms _).mono ?_
  rintro e w1 ⟨rfl, rfl⟩
  clear hms
  go_wp2
  have hown1 := HOWN.out W0
  clear hm1 HOWN
  have hB1 : Below W0.heap.size W0 (W0.alloc (.cells (madeCells #[.int .u64 0] N) 49)) := (Below.refl _ W0).alloc (Nat.le_refl _) _
  generalize W0.alloc (.cells (madeCells #[.int .u64 0] N) 49) = W1 at *
  go_loopw [8, 21] (fun d i wr => ∃ q : Nat, q ≤ R ∧ i = .int .i64 q ∧ OwnK .u64 49 W0.heap.size wr d (zn (pre C g (q * C))) ∧ Below W0.heap.size W0 wr) (fun _ i _ => R - (intOf i).toNat)
  case atStart => exact ⟨0, Nat.zero_le _, rfl, by rw [Nat.zero_mul, pre_zero]; exact hown1, hB1⟩
  case round =>
    obtain ⟨q, hq, rfl, hown, hB⟩ := hrel
    by_cases hlt : q < R
    · go_wp2
      have hown0 : OwnK .u64 49 W0.heap.size wr u8 (zn (pre C g (q * C + 0))) := hown
      have hqc : q * C + C ≤ N := by
        have := Nat.mul_le_mul_right C (show q + 1 ≤ R from hlt)
        rw [Nat.add_mul, Nat.one_mul, HN.out] at this
        omega
      clear hown
      obtain ⟨wo, rfl⟩ : ∃ wo : World, wo = wr := ⟨_, rfl⟩
      go_loopw [8, 25] (fun d j wi => ∃ r : Nat, r ≤ C ∧ j = .int .i64 r ∧ OwnK .u64 49 W0.heap.size wi d (zn (pre C g (q * C + r))) ∧ Below W0.heap.size W0 wi) (fun _ j _ => C - (intOf j).toNat)
      case atStart => exact ⟨0, Nat.zero_le _, rfl, hown0, hB⟩
      case round =>
        obtain ⟨r, hr, rfl, hownr, hBr⟩ := hrel
        by_cases hrt : r < C
        · have hc := HF.out q r wr hlt hrt (below_both bx hBr)
          have hen := HEN.out (#[.int .i64 (q : Int), .int .i64 (r : Int)] ++ fs) wr
          have HS := Lib.hid (pre_snoc (C := C) (i := q) g hrt)
          have hlen : (zn (pre C g (q * C + r))).length + 1 ≤ 17592186044416 := by rw [zn_length, pre_length]; omega
          go_wp2_with fail
          refine hc.mono ?_
          rintro e w2 ⟨rfl, b2⟩
          clear hc hen
          replace hBr := below_both hBr b2
          have hown2 := hownr.below b2
          go_wp2_with (at_builtin; refine app_u64 rfl _ _ rfl rfl rfl (cell_new1 _ _ _) (hown2.alloc _) hlen (by have := hBr.size; simp; omega) ?_; intro v' w3 hown3 hb3)
          go_roundw
          case rel => exact ⟨r + 1, by omega, by simp, by rw [← Nat.add_assoc, HS.out, zn_snoc]; exact hown3, (hBr.alloc hBr.size _).trans hb3⟩
          case measure => simp [intOf]; omega
        · obtain rfl : r = C := by omega
          clear hrt
          go_wp2
          go_roundw
          case rel => exact ⟨q + 1, by omega, by simp, by rw [Nat.add_mul, Nat.one_mul]; exact hownr, hBr⟩
          case measure => simp [intOf]; omega
    · obtain rfl : q = R := by omega
      clear hlt
      rw [HN.out] at hown
      have hnew := new_zn.2 (hown.new (Nat.lt_of_le_of_lt (Nat.zero_le _) (Nat.lt_of_lt_of_le hw0 hB.size)))
      have hN2 : (zn (pre C g N)).length = N := by rw [zn_length, pre_length]
      obtain ⟨a8, c8, e8⟩ := hown.len
      rw [hN2] at e8
      have G1 := G.below hB hw0
      have g0 := G1.cell (i := 0) rfl
      have g1 := G1.cell (i := 1) rfl
      have g2 := G1.cell (i := 2) rfl
      have f0 := G1.f 0
      have f1 := G1.f 1
      have f2 := G1.f 2
      subst e8
      have HNEW := Lib.hid hnew
      clear hnew hN2 hown hown1
      go_wp2
      exact bodyPost_ret (v := .tuple #[.agg #[.int .i64 (q : Int), .int .i64 (C : Int), .slice a8 N c8], .int .i64 0]) (by simp [results, Try.results63, go_sem, g0, g1, g2]) rfl
        ⟨a8, c8, rfl, ((by unfold tab; rw [HN.out]; exact HNEW.out : New W0.heap.size wr (.slice a8 N c8) (tab q C g)).put3 hw0 _ _ _).lower (Nat.le_of_lt hw0), (below_both bx hB).put3 (Nat.le_refl _) _ _ _⟩
theorem wplace {i j C : Nat} (hi : i ≤ 64) (hC : C ≤ 64) (hj : j ≤ 64) : IntKind.i64.wrap ((i : Int) * (C : Int)) = ((i * C : Nat) : Int) ∧ IntKind.i64.wrap (((i * C : Nat) : Int) + (j : Int)) = ((i * C + j : Nat) : Int) := by
  have h := Nat.mul_le_mul hi hC
  have e : ((i * C : Nat) : Int) = (i : Int) * (C : Int) := Int.natCast_mul _ _
  rw [← e]
  generalize i * C = P at *
  exact ⟨IntWalk.i64_in _ (by omega), by rw [IntWalk.i64_in _ (by omega)]; omega⟩
theorem bel_new (W : World) (o : Obj) : Below W.heap.size W (W.alloc o) := (Below.refl _ _).alloc (Nat.le_refl _) o
set_option maxHeartbeats 2000000 in
theorem shape_tr1 {a : Option Addr} {m cap S R C i j : Nat} {xs : List Nat} {w : World} (hA : Arg w (.slice a m cap) xs) (hM : Ms w S #[.int .i64 (R : Int), .int .i64 (C : Int), .slice a m cap] 24) (hl : xs.length = R * C) (hR : R ≤ 64) (hC : C ≤ 64) (hi : i < C) (hj : j < R) :
    Calls Try.prog 64 #[.int .i64 (i : Int), .int .i64 (j : Int), .pointer (some ⟨S, 0, none⟩)] w fun e W' => e = .returned (.int .u64 (lim xs (j * C + i) : Int)) ∧ Below w.heap.size w W' := by
  have hp := place_lt (R := C) (C := R) hi hj
  have hrc := Nat.mul_le_mul hR hC
  have c1 := hM.cell (i := 1) rfl
  have c2 := hM.cell (i := 2) rfl
  obtain ⟨T, a', c', hT, e, hcap, HA⟩ := hA.opened
  simp only [Value.slice.injEq] at e
  obtain ⟨rfl, rfl, rfl⟩ := e
  obtain ⟨o, rfl, k⟩ := HA.out w (Below.refl _ _) (j * C + i) (by rw [hl, Nat.mul_comm R C]; exact hp)
  obtain ⟨h1, h2⟩ := wplace (i := j) (C := C) (j := i) (by omega) hC (by omega)
  have hb : j * C + i < xs.length := by rw [hl, Nat.mul_comm R C]; exact hp
  generalize hP : j * C + i = P at *
  clear hP hp
  generalize j * C = Q at *
  generalize xs.length = m at *
  have hz : P < m := hb
  go_enter Try.func64, Try.ntmps64
  go_wp2
  go_ret
  exact ⟨rfl, Below.refl _ _⟩
end Go.Proofs.Ytjapilpjahhimaa

/- shape: Transpose, At, Same. -/
namespace Go.Proofs.Ytjapilpjahhimaa
open Go.RowKit Go.Shelf
set_option maxHeartbeats 4000000 in
theorem shape_turn {a : Option Addr} {m cap R C : Nat} {xs : List Nat} {w : World} (hA : Arg w (.slice a m cap) xs) (_hl : Low 18446744073709551616 xs) (h : mayM R C m = true) :
    Calls Try.prog 37 #[.agg #[.int .i64 (R : Int), .int .i64 (C : Int), .slice a m cap]] w fun e W' => ∃ b c, e = .returned (.tuple #[.agg #[.int .i64 (C : Int), .int .i64 (R : Int), .slice b (R * C) c], .int .i64 0]) ∧ New w.heap.size W' (.slice b (R * C) c) (trl R C xs) ∧ Below w.heap.size w W' := by
  have hm := mayM_iff.1 h
  have hml : m = xs.length := by
    obtain ⟨a', c', e⟩ := hA.slice
    simp only [Value.slice.injEq] at e
    omega
  have hlen : xs.length = R * C := by rw [← hml]; have := hm.2.2.2.2; exact_mod_cast this
  have hk := fun w => shape_check (a := a) (m := m) (cap := cap) (R := (R : Int)) (C := (C : Int)) (w := w)
  rw [show chkM (R : Int) (C : Int) m = 0 by unfold chkM; rw [h]; rfl] at hk
  obtain ⟨b1, G1⟩ := mbox w #[.int .i64 (R : Int), .int .i64 (C : Int), .slice a m cap] 24 _ rfl
  have b2 := bel_new (w.alloc (.cells #[.int .i64 (R : Int), .int .i64 (C : Int), .slice a m cap] 24)) (.cells #[.int .i64 0, .int .i64 0, .slice none 0 0] 24)
  have G2 : Ms ((w.alloc (.cells #[.int .i64 (R : Int), .int .i64 (C : Int), .slice a m cap] 24)).alloc (.cells #[.int .i64 0, .int .i64 0, .slice none 0 0] 24)) (w.heap.size + 1) #[.int .i64 0, .int .i64 0, .slice none 0 0] 24 := by
    have := World.alloc_heap_new (w.alloc (.cells #[.int .i64 (R : Int), .int .i64 (C : Int), .slice a m cap] 24)) (.cells #[.int .i64 0, .int .i64 0, .slice none 0 0] 24)
    rw [World.size_alloc] at this
    exact this
  replace G1 := G1.behind b2
  have B := below_both b1 b2
  have hw0 : w.heap.size + 1 < ((w.alloc (.cells #[.int .i64 (R : Int), .int .i64 (C : Int), .slice a m cap] 24)).alloc (.cells #[.int .i64 0, .int .i64 0, .slice none 0 0] 24)).heap.size := by rw [World.size_alloc, World.size_alloc]; omega
  have hbd := fun (W : World) (hA : Arg W (.slice a m cap) xs) (hM : Ms W w.heap.size #[.int .i64 (R : Int), .int .i64 (C : Int), .slice a m cap] 24) =>
    shape_build (R := C) (C := R) (k := 64) (fs := #[.pointer (some ⟨w.heap.size, 0, none⟩)]) (fun i j => lim xs (j * C + i)) (w := W) ⟨by omega, by omega⟩ ⟨by omega, by omega⟩ (enters_of Try.func64 (by kernel_rfl) rfl)
    (fun i j W' hi hj hb => shape_tr1 (hA.behind hb) (hM.behind hb) hlen (by omega) (by omega) hi hj)
  rw [← trl_tab R C xs, Nat.mul_comm C R] at hbd
  have HBD := Lib.hid hbd
  have HA := Lib.hid (hA.behind B)
  clear hbd hA hlen hml hm h
  generalize trl R C xs = ys at *
  generalize R * C = N at *
  have c0 := G1.cell (i := 0) rfl
  have c1 := G1.cell (i := 1) rfl
  have c2 := G1.cell (i := 2) rfl
  go_enter Try.func37, Try.ntmps37
  go_wp2_with fail
  generalize (w.alloc (.cells #[.int .i64 (R : Int), .int .i64 (C : Int), .slice a m cap] 24)).alloc (.cells #[.int .i64 0, .int .i64 0, .slice none 0 0] 24) = W0 at *
  refine (hk _).mono ?_
  rintro e w1 ⟨rfl, b3⟩
  clear hk
  have G1 := G1.behind b3
  have G2 := G2.behind b3
  have hA1 := HA.out.behind b3
  have c0 := G1.cell (i := 0) rfl
  have c1 := G1.cell (i := 1) rfl
  have c2 := G1.cell (i := 2) rfl
  have B := below_both B b3
  have hw1 := Nat.lt_of_lt_of_le hw0 b3.size
  go_wp2_with fail
  refine (HBD.out _ hA1 G1).mono ?_
  rintro e w2 ⟨b, c, rfl, hN, b4⟩
  have G2 := G2.behind b4
  have g0 := G2.cell (i := 0) rfl
  have g1 := G2.cell (i := 1) rfl
  have g2 := G2.cell (i := 2) rfl
  have f0 := G2.f 0
  have f1 := G2.f 1
  have f2 := G2.f 2
  go_wp2
  exact bodyPost_ret (v := .tuple #[.agg #[.int .i64 (C : Int), .int .i64 (R : Int), .slice b N c], .int .i64 0]) (by simp [results, Try.results37, go_sem, g0, g1, g2]) rfl
    ⟨b, c, rfl, (hN.put3 hw1 _ _ _).lower (by omega), (below_both B b4).put3 (by omega) _ _ _⟩
set_option maxHeartbeats 2000000 in
theorem shape_turn_no {a : Option Addr} {m cap : Nat} {R C : Int} {w : World} (h : mayM R C m = false) :
    Calls Try.prog 37 #[.agg #[.int .i64 R, .int .i64 C, .slice a m cap]] w fun e W' => e = .returned (.tuple #[.agg #[.int .i64 0, .int .i64 0, .slice none 0 0], .int .i64 11]) ∧ Below w.heap.size w W' := by
  have hk := fun w => shape_check (a := a) (m := m) (cap := cap) (R := R) (C := C) (w := w)
  rw [show chkM R C m = 11 by unfold chkM; rw [h]; rfl] at hk
  obtain ⟨b1, G1⟩ := mbox w #[.int .i64 R, .int .i64 C, .slice a m cap] 24 _ rfl
  have b2 := bel_new (w.alloc (.cells #[.int .i64 R, .int .i64 C, .slice a m cap] 24)) (.cells #[.int .i64 0, .int .i64 0, .slice none 0 0] 24)
  have G2 : Ms ((w.alloc (.cells #[.int .i64 R, .int .i64 C, .slice a m cap] 24)).alloc (.cells #[.int .i64 0, .int .i64 0, .slice none 0 0] 24)) (w.heap.size + 1) #[.int .i64 0, .int .i64 0, .slice none 0 0] 24 := by
    have := World.alloc_heap_new (w.alloc (.cells #[.int .i64 R, .int .i64 C, .slice a m cap] 24)) (.cells #[.int .i64 0, .int .i64 0, .slice none 0 0] 24)
    rw [World.size_alloc] at this
    exact this
  replace G1 := G1.behind b2
  have B := below_both b1 b2
  have c0 := G1.cell (i := 0) rfl
  have c1 := G1.cell (i := 1) rfl
  have c2 := G1.cell (i := 2) rfl
  clear h
  go_enter Try.func37, Try.ntmps37
  go_wp2_with fail
  generalize (w.alloc (.cells #[.int .i64 R, .int .i64 C, .slice a m cap] 24)).alloc (.cells #[.int .i64 0, .int .i64 0, .slice none 0 0] 24) = W0 at *
  refine (hk _).mono ?_
  rintro e w1 ⟨rfl, b3⟩
  clear hk
  have G2 := G2.behind b3
  have g0 := G2.cell (i := 0) rfl
  have g1 := G2.cell (i := 1) rfl
  have g2 := G2.cell (i := 2) rfl
  have f0 := G2.f 0
  have f1 := G2.f 1
  have f2 := G2.f 2
  go_wp2
  exact bodyPost_ret (v := .tuple #[.agg #[.int .i64 0, .int .i64 0, .slice none 0 0], .int .i64 11]) (by simp [results, Try.results37, go_sem, g0, g1, g2]) rfl
    ⟨rfl, (below_both B b3).put3 (by omega) _ _ _⟩
end Go.Proofs.Ytjapilpjahhimaa

/- slices.Equal over words; shape.Same. -/
namespace Go.Proofs.Ytjapilpjahhimaa
open Go.RowKit Go.Shelf
set_option maxHeartbeats 4000000 in
theorem equal_u64 {va vb : Value} {xs ys : List Nat} {w : World} (hA : Arg w va xs) (hB : Arg w vb ys) (hxl : xs.length ≤ 17592186044416) (hyl : ys.length ≤ 17592186044416) :
    Calls Try.prog 48 #[va, vb] w fun e w' => e = .returned (.bool (decide (xs = ys))) ∧ Below w.heap.size w w' := by
  have hex : xs.length = ys.length → xs ≠ ys → ∃ d, d < xs.length ∧ lim xs d ≠ lim ys d := by
    intro hl he
    refine Classical.byContradiction fun hno => he (ext_lim hl fun k hk => ?_)
    exact Classical.byContradiction fun hne => hno ⟨k, hk, hne⟩
  have hsm : xs = ys → ∀ k, lim xs k = lim ys k := by rintro rfl k; rfl
  have hln : xs = ys → xs.length = ys.length := by rintro rfl; rfl
  obtain ⟨S, a, cap, hS, rfl, hcap, HA⟩ := hA.opened
  obtain ⟨T, b, bap, hT, rfl, hbap, HB⟩ := hB.opened
  have HEX := Lib.hid hex
  have HSM := Lib.hid hsm
  clear hex hsm hA hB hcap hbap
  by_cases he : xs = ys
  · rw [decide_eq_true he]
    have hl := hln he
    have HQ := Lib.hid (HSM.out he)
    clear he HSM HEX hln
    rw [← hl] at HB ⊢
    clear hl
    generalize xs.length = m at *
    go_enter Try.func48, Try.ntmps48
    go_wp2
    go_loopw [13] (fun i wr => ∃ k : Nat, k ≤ m ∧ i = .int .i64 k ∧ Below w.heap.size w wr) (fun i _ => m - (intOf i).toNat)
    case atStart => exact ⟨0, Nat.zero_le _, rfl, Below.refl _ _⟩
    case round =>
      obtain ⟨k, hk, rfl, hB⟩ := hrel
      by_cases hlt : k < m
      · obtain ⟨oa, rfl, ka⟩ := HA.out wr hB k hlt
        obtain ⟨ob, rfl, kb⟩ := HB.out wr hB k hlt
        rw [← HQ.out k] at kb
        generalize lim xs k = v at *
        go_wp2
        go_quiet (fail)
        go_wp2
        go_roundw
        case rel => exact ⟨k + 1, by omega, by simp, below_both hB (below_drewN _ _ _)⟩
        case measure => simp [intOf]; omega
      · go_wp2
        go_ret
        exact ⟨rfl, hB⟩
  · rw [decide_eq_false he]
    by_cases hl : xs.length = ys.length
    · obtain ⟨d, hd, hne⟩ := HEX.out hl he
      have HNE := Lib.hid hne
      clear hne HEX HSM he hln
      rw [← hl] at HB ⊢
      clear hl
      generalize xs.length = m at *
      go_enter Try.func48, Try.ntmps48
      go_wp2
      go_loopw [13] (fun i wr => ∃ k : Nat, k ≤ d ∧ i = .int .i64 k ∧ Below w.heap.size w wr) (fun i _ => m - (intOf i).toNat)
      case atStart => exact ⟨0, Nat.zero_le _, rfl, Below.refl _ _⟩
      case round =>
        obtain ⟨k, hk, rfl, hB⟩ := hrel
        have hlt : k < m := by omega
        obtain ⟨oa, rfl, ka⟩ := HA.out wr hB k hlt
        obtain ⟨ob, rfl, kb⟩ := HB.out wr hB k hlt
        by_cases hv : lim xs k = lim ys k
        · have hkd : k ≠ d := fun h => HNE.out (h ▸ hv)
          rw [← hv] at kb
          generalize lim xs k = v at *
          clear hv
          go_wp2
          go_quiet (fail)
          go_wp2
          go_roundw
          case rel => exact ⟨k + 1, by omega, by simp, below_both hB (below_drewN _ _ _)⟩
          case measure => simp [intOf]; omega
        · have hb : ((lim xs k : Int) != (lim ys k : Int)) = true := bne_iff_ne.2 (by omega)
          generalize lim xs k = v at *
          generalize lim ys k = u at *
          clear hv
          go_wp2
          go_quiet (fail)
          go_wp2
          go_ret
          exact ⟨rfl, below_both hB (below_drewN _ _ _)⟩
    · have hb : ((xs.length : Int) != (ys.length : Int)) = true := bne_iff_ne.2 (by omega)
      clear hl HEX HSM he hln HA HB
      generalize xs.length = m at *
      generalize ys.length = m' at *
      go_enter Try.func48, Try.ntmps48
      go_wp2
      go_ret
      exact ⟨rfl, Below.refl _ _⟩
set_option maxHeartbeats 2000000 in
theorem shape_same {a b : Option Addr} {m cap m' cap' : Nat} {R C R' C' : Int} {xs ys : List Nat} {w : World} (hA : Arg w (.slice a m cap) xs) (hB : Arg w (.slice b m' cap') ys) (hl : xs.length ≤ 17592186044416) (hl' : ys.length ≤ 17592186044416) :
    Calls Try.prog 16 #[.agg #[.int .i64 R, .int .i64 C, .slice a m cap], .agg #[.int .i64 R', .int .i64 C', .slice b m' cap']] w fun e W' => e = .returned (.bool (sameM R C R' C' xs ys)) ∧ Below w.heap.size w W' := by
  obtain ⟨b1, G1⟩ := mbox w #[.int .i64 R, .int .i64 C, .slice a m cap] 24 _ rfl
  obtain ⟨b2, G2⟩ := mbox (w.alloc (.cells #[.int .i64 R, .int .i64 C, .slice a m cap] 24)) #[.int .i64 R', .int .i64 C', .slice b m' cap'] 24 _ rfl
  replace G1 := G1.behind b2
  replace hA := (hA.behind b1).behind b2
  replace hB := (hB.behind b1).behind b2
  have bb := below_both b1 b2
  have c00 := G1.cell (i := 0) rfl
  have c01 := G1.cell (i := 1) rfl
  have c02 := G1.cell (i := 2) rfl
  have d00 := G2.cell (i := 0) rfl
  have d01 := G2.cell (i := 1) rfl
  have d02 := G2.cell (i := 2) rfl
  simp only [World.size_alloc] at d00 d01 d02
  unfold sameM
  by_cases hR : R = R'
  · subst hR
    by_cases hC : C = C'
    · subst hC
      rw [decide_eq_true rfl, decide_eq_true rfl, Bool.true_and, Bool.true_and]
      have hq := equal_u64 hA hB hl hl'
      generalize decide (xs = ys) = q at *
      go_enter Try.func16, Try.ntmps16
      go_wp2_with fail
      refine hq.mono ?_
      rintro e w1 ⟨rfl, b3⟩
      clear hq
      go_wp2
      go_ret
      exact ⟨rfl, below_both bb b3⟩
    · rw [decide_eq_false hC, Bool.false_and, Bool.and_false]
      have hb : (C == C') = false := beq_eq_false_iff_ne.2 hC
      clear hC
      go_enter Try.func16, Try.ntmps16
      go_wp2
      go_ret
      exact ⟨rfl, bb⟩
  · rw [decide_eq_false hR, Bool.false_and]
    have hb : (R == R') = false := beq_eq_false_iff_ne.2 hR
    clear hR
    go_enter Try.func16, Try.ntmps16
    go_wp2
    go_ret
    exact ⟨rfl, bb⟩
end Go.Proofs.Ytjapilpjahhimaa
