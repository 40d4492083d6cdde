/- shape: Transpose, At, Same. -/
import Derived.Test.YtdcebkhdnhdejaaShMake
namespace Go.Proofs.Ytdcebkhdnhdejaa
open Go.RowKit Go.Shelf
set_option maxHeartbeats 4000000 in
theorem shape_turn {a : Option Addr} {m cap R C : Nat} {xs : List Nat} {w : World} (hA : Arg w (.slice a m cap) xs) (_hl : Low 18446744073709551616 xs) (h : mayM R C m = true) :
    Calls Try.prog 38 #[.agg #[.int .i64 (R : Int), .int .i64 (C : Int), .slice a m cap]] w fun e W' => ∃ b c, e = .returned (.tuple #[.agg #[.int .i64 (C : Int), .int .i64 (R : Int), .slice b (R * C) c], .int .i64 0]) ∧ New w.heap.size W' (.slice b (R * C) c) (trl R C xs) ∧ Below w.heap.size w W' := by
  have hm := mayM_iff.1 h
  have hml : m = xs.length := by
    obtain ⟨a', c', e⟩ := hA.slice
    simp only [Value.slice.injEq] at e
    omega
  have hlen : xs.length = R * C := by rw [← hml]; have := hm.2.2.2.2; exact_mod_cast this
  have hk := fun w => shape_check (a := a) (m := m) (cap := cap) (R := (R : Int)) (C := (C : Int)) (w := w)
  rw [show chkM (R : Int) (C : Int) m = 0 by unfold chkM; rw [h]; rfl] at hk
  obtain ⟨b1, G1⟩ := mbox w #[.int .i64 (R : Int), .int .i64 (C : Int), .slice a m cap] 24 _ rfl
  have b2 := bel_new (w.alloc (.cells #[.int .i64 (R : Int), .int .i64 (C : Int), .slice a m cap] 24)) (.cells #[.int .i64 0, .int .i64 0, .slice none 0 0] 24)
  have G2 : Ms ((w.alloc (.cells #[.int .i64 (R : Int), .int .i64 (C : Int), .slice a m cap] 24)).alloc (.cells #[.int .i64 0, .int .i64 0, .slice none 0 0] 24)) (w.heap.size + 1) #[.int .i64 0, .int .i64 0, .slice none 0 0] 24 := by
    have := World.alloc_heap_new (w.alloc (.cells #[.int .i64 (R : Int), .int .i64 (C : Int), .slice a m cap] 24)) (.cells #[.int .i64 0, .int .i64 0, .slice none 0 0] 24)
    rw [World.size_alloc] at this
    exact this
  replace G1 := G1.behind b2
  have B := below_both b1 b2
  have hw0 : w.heap.size + 1 < ((w.alloc (.cells #[.int .i64 (R : Int), .int .i64 (C : Int), .slice a m cap] 24)).alloc (.cells #[.int .i64 0, .int .i64 0, .slice none 0 0] 24)).heap.size := by rw [World.size_alloc, World.size_alloc]; omega
  have hbd := fun (W : World) (hA : Arg W (.slice a m cap) xs) (hM : Ms W w.heap.size #[.int .i64 (R : Int), .int .i64 (C : Int), .slice a m cap] 24) =>
    shape_build (R := C) (C := R) (k := 86) (fs := #[.pointer (some ⟨w.heap.size, 0, none⟩)]) (fun i j => lim xs (j * C + i)) (w := W) ⟨by omega, by omega⟩ ⟨by omega, by omega⟩ (enters_of Try.func86 (by kernel_rfl) rfl)
    (fun i j W' hi hj hb => shape_tr1 (hA.behind hb) (hM.behind hb) hlen (by omega) (by omega) hi hj)
  rw [← trl_tab R C xs, Nat.mul_comm C R] at hbd
  have HBD := Lib.hid hbd
  have HA := Lib.hid (hA.behind B)
  clear hbd hA hlen hml hm h
  generalize trl R C xs = ys at *
  generalize R * C = N at *
  have c0 := G1.cell (i := 0) rfl
  have c1 := G1.cell (i := 1) rfl
  have c2 := G1.cell (i := 2) rfl
  go_enter Try.func38, Try.ntmps38
  go_wp2_with fail
  generalize (w.alloc (.cells #[.int .i64 (R : Int), .int .i64 (C : Int), .slice a m cap] 24)).alloc (.cells #[.int .i64 0, .int .i64 0, .slice none 0 0] 24) = W0 at *
  refine (hk _).mono ?_
  rintro e w1 ⟨rfl, b3⟩
  clear hk
  have G1 := G1.behind b3
  have G2 := G2.behind b3
  have hA1 := HA.out.behind b3
  have c0 := G1.cell (i := 0) rfl
  have c1 := G1.cell (i := 1) rfl
  have c2 := G1.cell (i := 2) rfl
  have B := below_both B b3
  have hw1 := Nat.lt_of_lt_of_le hw0 b3.size
  go_wp2_with fail
  refine (HBD.out _ hA1 G1).mono ?_
  rintro e w2 ⟨b, c, rfl, hN, b4⟩
  have G2 := G2.behind b4
  have g0 := G2.cell (i := 0) rfl
  have g1 := G2.cell (i := 1) rfl
  have g2 := G2.cell (i := 2) rfl
  have f0 := G2.f 0
  have f1 := G2.f 1
  have f2 := G2.f 2
  go_wp2
  exact bodyPost_ret (v := .tuple #[.agg #[.int .i64 (C : Int), .int .i64 (R : Int), .slice b N c], .int .i64 0]) (by simp [results, Try.results38, go_sem, g0, g1, g2]) rfl
    ⟨b, c, rfl, (hN.put3 hw1 _ _ _).lower (by omega), (below_both B b4).put3 (by omega) _ _ _⟩
set_option maxHeartbeats 2000000 in
theorem shape_turn_no {a : Option Addr} {m cap : Nat} {R C : Int} {w : World} (h : mayM R C m = false) :
    Calls Try.prog 38 #[.agg #[.int .i64 R, .int .i64 C, .slice a m cap]] w fun e W' => e = .returned (.tuple #[.agg #[.int .i64 0, .int .i64 0, .slice none 0 0], .int .i64 11]) ∧ Below w.heap.size w W' := by
  have hk := fun w => shape_check (a := a) (m := m) (cap := cap) (R := R) (C := C) (w := w)
  rw [show chkM R C m = 11 by unfold chkM; rw [h]; rfl] at hk
  obtain ⟨b1, G1⟩ := mbox w #[.int .i64 R, .int .i64 C, .slice a m cap] 24 _ rfl
  have b2 := bel_new (w.alloc (.cells #[.int .i64 R, .int .i64 C, .slice a m cap] 24)) (.cells #[.int .i64 0, .int .i64 0, .slice none 0 0] 24)
  have G2 : Ms ((w.alloc (.cells #[.int .i64 R, .int .i64 C, .slice a m cap] 24)).alloc (.cells #[.int .i64 0, .int .i64 0, .slice none 0 0] 24)) (w.heap.size + 1) #[.int .i64 0, .int .i64 0, .slice none 0 0] 24 := by
    have := World.alloc_heap_new (w.alloc (.cells #[.int .i64 R, .int .i64 C, .slice a m cap] 24)) (.cells #[.int .i64 0, .int .i64 0, .slice none 0 0] 24)
    rw [World.size_alloc] at this
    exact this
  replace G1 := G1.behind b2
  have B := below_both b1 b2
  have c0 := G1.cell (i := 0) rfl
  have c1 := G1.cell (i := 1) rfl
  have c2 := G1.cell (i := 2) rfl
  clear h
  go_enter Try.func38, Try.ntmps38
  go_wp2_with fail
  generalize (w.alloc (.cells #[.int .i64 R, .int .i64 C, .slice a m cap] 24)).alloc (.cells #[.int .i64 0, .int .i64 0, .slice none 0 0] 24) = W0 at *
  refine (hk _).mono ?_
  rintro e w1 ⟨rfl, b3⟩
  clear hk
  have G2 := G2.behind b3
  have g0 := G2.cell (i := 0) rfl
  have g1 := G2.cell (i := 1) rfl
  have g2 := G2.cell (i := 2) rfl
  have f0 := G2.f 0
  have f1 := G2.f 1
  have f2 := G2.f 2
  go_wp2
  exact bodyPost_ret (v := .tuple #[.agg #[.int .i64 0, .int .i64 0, .slice none 0 0], .int .i64 11]) (by simp [results, Try.results38, go_sem, g0, g1, g2]) rfl
    ⟨rfl, (below_both B b3).put3 (by omega) _ _ _⟩
end Go.Proofs.Ytdcebkhdnhdejaa

/- slices.Equal over words; shape.Same. -/
namespace Go.Proofs.Ytdcebkhdnhdejaa
open Go.RowKit Go.Shelf
set_option maxHeartbeats 4000000 in
theorem equal_u64 {va vb : Value} {xs ys : List Nat} {w : World} (hA : Arg w va xs) (hB : Arg w vb ys) (hxl : xs.length ≤ 17592186044416) (hyl : ys.length ≤ 17592186044416) :
    Calls Try.prog 64 #[va, vb] w fun e w' => e = .returned (.bool (decide (xs = ys))) ∧ Below w.heap.size w w' := by
  have hex : xs.length = ys.length → xs ≠ ys → ∃ d, d < xs.length ∧ lim xs d ≠ lim ys d := by
    intro hl he
    refine Classical.byContradiction fun hno => he (ext_lim hl fun k hk => ?_)
    exact Classical.byContradiction fun hne => hno ⟨k, hk, hne⟩
  have hsm : xs = ys → ∀ k, lim xs k = lim ys k := by rintro rfl k; rfl
  have hln : xs = ys → xs.length = ys.length := by rintro rfl; rfl
  obtain ⟨S, a, cap, hS, rfl, hcap, HA⟩ := hA.opened
  obtain ⟨T, b, bap, hT, rfl, hbap, HB⟩ := hB.opened
  have HEX := Lib.hid hex
  have HSM := Lib.hid hsm
  clear hex hsm hA hB hcap hbap
  by_cases he : xs = ys
  · rw [decide_eq_true he]
    have hl := hln he
    have HQ := Lib.hid (HSM.out he)
    clear he HSM HEX hln
    rw [← hl] at HB ⊢
    clear hl
    generalize xs.length = m at *
    go_enter Try.func64, Try.ntmps64
    go_wp2
    go_loopw [13] (fun i wr => ∃ k : Nat, k ≤ m ∧ i = .int .i64 k ∧ Below w.heap.size w wr) (fun i _ => m - (intOf i).toNat)
    case atStart => exact ⟨0, Nat.zero_le _, rfl, Below.refl _ _⟩
    case round =>
      obtain ⟨k, hk, rfl, hB⟩ := hrel
      by_cases hlt : k < m
      · obtain ⟨oa, rfl, ka⟩ := HA.out wr hB k hlt
        obtain ⟨ob, rfl, kb⟩ := HB.out wr hB k hlt
        rw [← HQ.out k] at kb
        generalize lim xs k = v at *
        go_wp2
        go_quiet (fail)
        go_wp2
        go_roundw
        case rel => exact ⟨k + 1, by omega, by simp, below_both hB (below_drewN _ _ _)⟩
        case measure => simp [intOf]; omega
      · go_wp2
        go_ret
        exact ⟨rfl, hB⟩
  · rw [decide_eq_false he]
    by_cases hl : xs.length = ys.length
    · obtain ⟨d, hd, hne⟩ := HEX.out hl he
      have HNE := Lib.hid hne
      clear hne HEX HSM he hln
      rw [← hl] at HB ⊢
      clear hl
      generalize xs.length = m at *
      go_enter Try.func64, Try.ntmps64
      go_wp2
      go_loopw [13] (fun i wr => ∃ k : Nat, k ≤ d ∧ i = .int .i64 k ∧ Below w.heap.size w wr) (fun i _ => m - (intOf i).toNat)
      case atStart => exact ⟨0, Nat.zero_le _, rfl, Below.refl _ _⟩
      case round =>
        obtain ⟨k, hk, rfl, hB⟩ := hrel
        have hlt : k < m := by omega
        obtain ⟨oa, rfl, ka⟩ := HA.out wr hB k hlt
        obtain ⟨ob, rfl, kb⟩ := HB.out wr hB k hlt
        by_cases hv : lim xs k = lim ys k
        · have hkd : k ≠ d := fun h => HNE.out (h ▸ hv)
          rw [← hv] at kb
          generalize lim xs k = v at *
          clear hv
          go_wp2
          go_quiet (fail)
          go_wp2
          go_roundw
          case rel => exact ⟨k + 1, by omega, by simp, below_both hB (below_drewN _ _ _)⟩
          case measure => simp [intOf]; omega
        · have hb : ((lim xs k : Int) != (lim ys k : Int)) = true := bne_iff_ne.2 (by omega)
          generalize lim xs k = v at *
          generalize lim ys k = u at *
          clear hv
          go_wp2
          go_quiet (fail)
          go_wp2
          go_ret
          exact ⟨rfl, below_both hB (below_drewN _ _ _)⟩
    · have hb : ((xs.length : Int) != (ys.length : Int)) = true := bne_iff_ne.2 (by omega)
      clear hl HEX HSM he hln HA HB
      generalize xs.length = m at *
      generalize ys.length = m' at *
      go_enter Try.func64, Try.ntmps64
      go_wp2
      go_ret
      exact ⟨rfl, Below.refl _ _⟩
set_option maxHeartbeats 2000000 in
theorem shape_same {a b : Option Addr} {m cap m' cap' : Nat} {R C R' C' : Int} {xs ys : List Nat} {w : World} (hA : Arg w (.slice a m cap) xs) (hB : Arg w (.slice b m' cap') ys) (hl : xs.length ≤ 17592186044416) (hl' : ys.length ≤ 17592186044416) :
    Calls Try.prog 21 #[.agg #[.int .i64 R, .int .i64 C, .slice a m cap], .agg #[.int .i64 R', .int .i64 C', .slice b m' cap']] w fun e W' => e = .returned (.bool (sameM R C R' C' xs ys)) ∧ Below w.heap.size w W' := by
  obtain ⟨b1, G1⟩ := mbox w #[.int .i64 R, .int .i64 C, .slice a m cap] 24 _ rfl
  obtain ⟨b2, G2⟩ := mbox (w.alloc (.cells #[.int .i64 R, .int .i64 C, .slice a m cap] 24)) #[.int .i64 R', .int .i64 C', .slice b m' cap'] 24 _ rfl
  replace G1 := G1.behind b2
  replace hA := (hA.behind b1).behind b2
  replace hB := (hB.behind b1).behind b2
  have bb := below_both b1 b2
  have c00 := G1.cell (i := 0) rfl
  have c01 := G1.cell (i := 1) rfl
  have c02 := G1.cell (i := 2) rfl
  have d00 := G2.cell (i := 0) rfl
  have d01 := G2.cell (i := 1) rfl
  have d02 := G2.cell (i := 2) rfl
  simp only [World.size_alloc] at d00 d01 d02
  unfold sameM
  by_cases hR : R = R'
  · subst hR
    by_cases hC : C = C'
    · subst hC
      rw [decide_eq_true rfl, decide_eq_true rfl, Bool.true_and, Bool.true_and]
      have hq := equal_u64 hA hB hl hl'
      generalize decide (xs = ys) = q at *
      go_enter Try.func21, Try.ntmps21
      go_wp2_with fail
      refine hq.mono ?_
      rintro e w1 ⟨rfl, b3⟩
      clear hq
      go_wp2
      go_ret
      exact ⟨rfl, below_both bb b3⟩
    · rw [decide_eq_false hC, Bool.false_and, Bool.and_false]
      have hb : (C == C') = false := beq_eq_false_iff_ne.2 hC
      clear hC
      go_enter Try.func21, Try.ntmps21
      go_wp2
      go_ret
      exact ⟨rfl, bb⟩
  · rw [decide_eq_false hR, Bool.false_and]
    have hb : (R == R') = false := beq_eq_false_iff_ne.2 hR
    clear hR
    go_enter Try.func21, Try.ntmps21
    go_wp2
    go_ret
    exact ⟨rfl, bb⟩
end Go.Proofs.Ytdcebkhdnhdejaa
