/- vernierlaw13.FconvFrom, walked. -/
import Derived.Test.YtgobclmihppopabFvWhole
namespace Go.Proofs.Ytgobclmihppopab
open Go.RowKit Go.Shelf
/-- block g holds just these cells -/
def Vs (W : World) (g : Nat) (cs : Array Value) (t : TypeId) : Prop := W.heap[g]? = some (.cells cs t (0, 0))
theorem Vs.lt {W : World} {g : Nat} {cs : Array Value} {t : TypeId} (h : Vs W g cs t) : g < W.heap.size := (Array.getElem?_eq_some_iff.1 h).1
theorem Vs.cell {W : World} {g : Nat} {cs : Array Value} {t : TypeId} (h : Vs W g cs t) {i : Nat} {v : Value} (hv : cs[i]? = some v) : W.cell? ⟨g, i, none⟩ = some v := by
  rw [cell_of_row W g i _ _ (0, 0) h, hv]
theorem Vs.behind {W W' : World} {g : Nat} {cs : Array Value} {t : TypeId} (h : Vs W g cs t) (hb : Below W.heap.size W W') : Vs W' g cs t := (hb.block g h.lt).trans h
theorem vbox (w : World) (c : Array Value) (t : TypeId) (W : World) (h : W = w.alloc (.cells c t)) : Below w.heap.size w W ∧ Vs W w.heap.size c t := by
  subst h
  exact ⟨(Below.refl _ w).alloc (Nat.le_refl _) _, World.alloc_heap_new w _⟩
theorem rround1 {va : Value} {num i : Nat} {exp mode : Int} {neg : Bool} {w : World} (hA : RN w va num i) (hn : 0 < num) (hi : i ≤ 4000) (hi1 : 1 ≤ i) (he1 : -40000 ≤ exp) (he2 : exp ≤ 40000) :
    Calls Try.prog 35 #[.bool neg, va, .slice (some ⟨w.heap.size, 0, none⟩) 1 1, .int .i64 exp, .int .i64 mode] (w.alloc (.cells #[.int .i64 1] 3)) fun e W' => e = .returned (.tuple #[.int .u64 ((rnd neg num 1 exp mode).1 : Int), .int .i64 ((rnd neg num 1 exp mode).2 : Int)]) ∧ Below w.heap.size w W' := by
  have bb := (Below.refl w.heap.size w).alloc (Nat.le_refl _) (.cells #[.int .i64 1] 3)
  refine (rround_num (hA.behind bb) (rn_one w 1 (by decide) (by decide)) hn (by decide) hi (by decide) hi1 (by decide) he1 he2).mono ?_
  rintro e W' ⟨rfl, b⟩
  exact ⟨rfl, below_both bb b⟩
set_option maxRecDepth 100000 in
set_option maxHeartbeats 8000000 in
theorem fconvFrom_calls {n x mode : Int} {s : Bool} {a : Option Addr} {m cap M i : Nat} {w : World} (hN : Num w (.slice a m cap) M i) (hi : i ≤ 4398046511104) (h1 : -9223372036854775808 ≤ n) (h2 : n ≤ 9223372036854775807) (h3 : -9223372036854775808 ≤ x) (h4 : x ≤ 9223372036854775807) :
    Calls Try.prog 11 #[.int .i64 n, .agg #[.bool s, .slice a m cap, .int .i64 x], .int .i64 mode] w fun e W' => e = .returned (.bool true) ∧ Below w.heap.size w W' := by
  have hb := vbox w #[.bool s, .slice a m cap, .int .i64 x] 48 _ rfl
  have hint := fun w => fconv_int (n := n) (mode := mode) (w := w) h1 h2
  obtain ⟨N, hNn⟩ : ∃ N : Nat, n.natAbs = N := ⟨_, rfl⟩
  obtain ⟨P, hP⟩ : ∃ P, intB n mode = P := ⟨_, rfl⟩
  rw [hP] at hint
  unfold intB at hP
  rw [hNn] at hP
  obtain ⟨P1, P2⟩ := P
  dsimp only at hint
  have HP := Lib.hid hP
  have HN := Lib.hid hNn
  clear hP hNn
  go_enter Try.func11, Try.ntmps11
  go_wp2_with fail
  obtain ⟨hB, G0⟩ := hb
  generalize (w.alloc (.cells #[.bool s, .slice a m cap, .int .i64 x] 48)) = W0 at hB G0 ⊢
  refine (valive _).mono ?_
  rintro e w1 ⟨rfl, b1⟩
  replace G0 := G0.behind b1
  replace hB := below_both hB b1
  clear b1
  go_wp2_with fail
  refine (hint _).mono ?_
  rintro e w2 ⟨rfl, b1⟩
  replace G0 := G0.behind b1
  replace hB := below_both hB b1
  clear b1 hint
  go_upto_if 29 with (fail)
  go_cut [9] from 29 to 31 (fun u wx => u = .int .u64 (N : Int) ∧ wx = w2)
  case first =>
    by_cases hneg : n < 0
    · have dn : decide (n < 0) = true := decide_eq_true hneg
      have hNn := HN.out
      go_wp2_with fail
      go_meet
      case rel => exact ⟨congrArg (Value.int .u64) (by simp only [IntKind.wrap_u64]; omega), rfl⟩
    · have dn : decide (n < 0) = false := decide_eq_false hneg
      have hNn := HN.out
      go_wp2_with fail
      go_meet
      case rel => exact ⟨congrArg (Value.int .u64) (by simp only [IntKind.wrap_u64]; omega), rfl⟩
  case rest =>
    obtain ⟨rfl, hW⟩ := hcut
    cases hW
    have hN64 : N < 18446744073709551616 := by have := HN.out; omega
    go_upto_if 33 with (fail)
    go_cut [] from 33 to 57 (fun wx => Below w2.heap.size w2 wx)
    case first =>
      by_cases h0 : n = 0
      · subst h0
        have hP := HP.out
        rw [if_pos rfl] at hP
        simp only [Prod.mk.injEq] at hP
        obtain ⟨rfl, rfl⟩ := hP
        go_wp2_with fail
        go_meet
        case rel => exact Below.refl _ _
      · have hP := HP.out
        rw [if_neg h0] at hP
        have d0 : (n == 0) = false := beq_eq_false_iff_ne.2 h0
        have hNp : 0 < N := by have := HN.out; omega
        have HR := Lib.hid hP
        clear h0 hP HP HN
        go_wp2_with fail
        refine (word6 hN64).mono ?_
        rintro e w3 ⟨v3, rfl, r3, b3⟩
        go_wp2_with fail
        refine (rround1 (neg := decide (n < 0)) (mode := mode) r3 hNp (by decide) (by decide) (by decide) (by decide)).mono ?_
        rintro e w4 ⟨rfl, b4⟩
        rw [HR.out]
        go_wp2_with fail
        go_meet
        case rel => exact below_both b3 b4
    case rest =>
      replace G0 := G0.behind hcut
      replace hB := below_both hB hcut
      clear hcut
      replace hN := hN.behind hB
      have c00 := G0.cell (i := 0) rfl
      have c01 := G0.cell (i := 1) rfl
      have c02 := G0.cell (i := 2) rfl
      have hfr := fconv_from (s := s) (mode := mode) hN hi h3 h4
      obtain ⟨mb, hmb⟩ : ∃ mb, mayV m x = mb := ⟨_, rfl⟩
      rw [hmb] at hfr
      have hway : (mb = false ∧ (decide (x < -16384) = true ∨ (decide (x < -16384) = false ∧ decide (16384 < x) = true) ∨ (decide (x < -16384) = false ∧ decide (16384 < x) = false ∧ decide ((1024 : Int) < (m : Int)) = true))) ∨ (mb = true ∧ decide (x < -16384) = false ∧ decide (16384 < x) = false ∧ decide ((1024 : Int) < (m : Int)) = false ∧ -16384 ≤ x ∧ x ≤ 16384) := by
        cases mb
        · left
          refine ⟨rfl, ?_⟩
          have hno : ¬ (-16384 ≤ x ∧ x ≤ 16384 ∧ m ≤ 1024) := fun h => by rw [mayV_iff.2 h] at hmb; cases hmb
          by_cases k1 : x < -16384
          · exact .inl (decide_eq_true k1)
          · by_cases k2 : 16384 < x
            · exact .inr (.inl ⟨decide_eq_false k1, decide_eq_true k2⟩)
            · exact .inr (.inr ⟨decide_eq_false k1, decide_eq_false k2, decide_eq_true (by omega)⟩)
        · right
          obtain ⟨k1, k2, k3⟩ := mayV_iff.1 hmb
          exact ⟨rfl, decide_eq_false (by omega), decide_eq_false (by omega), decide_eq_false (by omega), k1, k2⟩
      clear hmb
      have HW := Lib.hid hway
      have HF := Lib.hid hfr
      clear hway hfr
      rcases HW.out with ⟨rfl, hw3⟩ | ⟨rfl, k1, k2, k3, k4, k5⟩
      · have HW3 := Lib.hid hw3
        clear hw3 HW
        have hfr : Calls Try.prog 37 #[.agg #[.bool s, .slice a m cap, .int .i64 x], .int .i64 mode] wc fun e W' => e = .returned (.tuple #[.int .u64 0, .int .i64 0, .int .i64 9]) ∧ Below wc.heap.size wc W' := by
          refine HF.out.mono ?_
          rintro e W' ⟨Z, F, q, rfl, k, _, b⟩
          obtain ⟨rfl, rfl, rfl⟩ := k rfl
          exact ⟨rfl, b⟩
        clear HF
        go_wp2_with fail
        refine hfr.mono ?_
        rintro e w4 ⟨rfl, b4⟩
        replace G0 := G0.behind b4
        replace hB := below_both hB b4
        replace hN := hN.behind b4
        clear b4 hfr c00 c01 c02
        have c00 := G0.cell (i := 0) rfl
        have c01 := G0.cell (i := 1) rfl
        have c02 := G0.cell (i := 2) rfl
        go_wp2_with fail
        refine (of_num hN hi).mono ?_
        rintro e w5 ⟨v5, rfl, r5, b5⟩
        replace G0 := G0.behind b5
        replace hB := below_both hB b5
        clear b5 r5 c00 c01 c02 hN
        have c00 := G0.cell (i := 0) rfl
        have c01 := G0.cell (i := 1) rfl
        have c02 := G0.cell (i := 2) rfl
        rcases HW3.out with e1 | ⟨e1, e2⟩ | ⟨e1, e2, e3⟩
        all_goals
          go_wp2
          go_ret
          exact ⟨rfl, hB⟩
      · clear HW
        by_cases h0 : M = 0
        · have hfr : Calls Try.prog 37 #[.agg #[.bool s, .slice a m cap, .int .i64 x], .int .i64 mode] wc fun e W' => ∃ Z : Nat, e = .returned (.tuple #[.int .u64 (Z : Int), .int .i64 0, .int .i64 0]) ∧ (Z = 0 ∨ Z = 9223372036854775808) ∧ Below wc.heap.size wc W' := by
            refine HF.out.mono ?_
            rintro e W' ⟨Z, F, q, rfl, _, k, b⟩
            obtain ⟨rfl, kk, _⟩ := k rfl
            obtain ⟨rfl, hz⟩ := kk h0
            exact ⟨Z, rfl, hz, b⟩
          subst h0
          clear HF
          go_wp2_with fail
          refine hfr.mono ?_
          rintro e w4 ⟨Z, rfl, hz, b4⟩
          replace G0 := G0.behind b4
          replace hB := below_both hB b4
          replace hN := hN.behind b4
          clear b4 hfr c00 c01 c02
          have c00 := G0.cell (i := 0) rfl
          have c01 := G0.cell (i := 1) rfl
          have c02 := G0.cell (i := 2) rfl
          go_wp2_with fail
          refine (of_num hN hi).mono ?_
          rintro e w5 ⟨v5, rfl, r5, b5⟩
          replace G0 := G0.behind b5
          replace hB := below_both hB b5
          obtain ⟨xa, xc, rfl⟩ := r5.none
          clear b5 r5 c00 c01 c02 hN
          have c00 := G0.cell (i := 0) rfl
          have c01 := G0.cell (i := 1) rfl
          have c02 := G0.cell (i := 2) rfl
          rcases hz with rfl | rfl
          all_goals
            go_wp2
            go_ret
            exact ⟨rfl, hB⟩
        · obtain ⟨R, hR⟩ : ∃ R, rnd s M 1 x mode = R := ⟨_, rfl⟩
          obtain ⟨R1, R2⟩ := R
          have hfr : Calls Try.prog 37 #[.agg #[.bool s, .slice a m cap, .int .i64 x], .int .i64 mode] wc fun e W' => e = .returned (.tuple #[.int .u64 (R1 : Int), .int .i64 (R2 : Int), .int .i64 0]) ∧ Below wc.heap.size wc W' := by
            refine HF.out.mono ?_
            rintro e W' ⟨Z, F, q, rfl, _, k, b⟩
            obtain ⟨rfl, _, kk⟩ := k rfl
            have := kk h0
            rw [hR] at this
            simp only [Prod.mk.injEq] at this
            obtain ⟨rfl, rfl⟩ := this
            exact ⟨rfl, b⟩
          have hM : 0 < M := Nat.pos_of_ne_zero h0
          have HR := Lib.hid hR
          have hdl := digs_pos (B := 65536) (by decide) h0
          have hL1 : 0 < (digs 65536 M).length := by rw [hdl]; simp
          have hML : M < 65536 ^ (digs 65536 M).length := by
            have h1 := val_lt (digs_low (B := 65536) (by decide) M) (by decide)
            rwa [val_digs (by decide)] at h1
          clear HF hR hdl
          go_wp2_with fail
          refine hfr.mono ?_
          rintro e w4 ⟨rfl, b4⟩
          replace G0 := G0.behind b4
          replace hB := below_both hB b4
          replace hN := hN.behind b4
          clear b4 hfr c00 c01 c02
          have c00 := G0.cell (i := 0) rfl
          have c01 := G0.cell (i := 1) rfl
          have c02 := G0.cell (i := 2) rfl
          go_wp2_with fail
          refine (of_num hN hi).mono ?_
          rintro e w5 ⟨v5, rfl, r5, b5⟩
          replace G0 := G0.behind b5
          replace hB := below_both hB b5
          clear b5 c00 c01 c02 hN
          obtain ⟨xa, xc, rfl, hxc⟩ := r5.slice
          have r6 := r5.re hML
          have c00 := G0.cell (i := 0) rfl
          have c01 := G0.cell (i := 1) rfl
          have c02 := G0.cell (i := 2) rfl
          have HML := Lib.hid hML
          generalize (digs 65536 M).length = L at *
          have dl : ((L : Int) == 0) = false := beq_eq_false_iff_ne.2 (by omega)
          clear hML r5 hxc h0
          by_cases h200 : (200 : Int) < (L : Int)
          · go_wp2
            go_ret
            exact ⟨rfl, hB⟩
          · have c12 : (w5.alloc (.cells #[.int .i64 1] 3)).cell? ⟨w.heap.size, 2, none⟩ = some (.int .i64 x) := (G0.behind ((Below.refl w5.heap.size w5).alloc (Nat.le_refl _) _)).cell rfl
            go_wp2_with fail
            refine (rround1 (neg := s) (mode := mode) (exp := x) r6 hM (by omega) (by omega) (by omega) (by omega)).mono ?_
            rintro e w6 ⟨rfl, b6⟩
            rw [HR.out]
            go_wp2
            go_ret
            exact ⟨rfl, below_both hB b6⟩
end Go.Proofs.Ytgobclmihppopab
