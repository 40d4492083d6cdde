/- morton.To. -/
import Derived.Test.YtaefalmabphadaaMoLay
import Derived.Deep.RegionWith
namespace Go.Proofs.Ytaefalmabphadaa
open Go.RowKit Go.Shelf
theorem sized_of {a : Option Addr} {m cap : Nat} {xs : List Nat} {w : World} (hA : Arg w (.slice a m cap) xs) : m = xs.length := by
  obtain ⟨a', c', e⟩ := hA.slice
  simp only [Value.slice.injEq] at e
  omega
set_option maxRecDepth 100000 in
set_option maxHeartbeats 8000000 in
theorem mo_to {a : Option Addr} {m cap R C t : Nat} {xs : List Nat} {w : World} (hA : Arg w (.slice a m cap) xs) (h : mayM R C m = true) (ht : 1 ≤ t) (h8 : t ≤ 8) :
    Calls Try.prog 41 #[.agg #[.int .i64 (R : Int), .int .i64 (C : Int), .slice a m cap], .int .i64 (t : Int)] w fun e W' => ∃ v, e = .returned (.tuple #[v, .int .i64 0]) ∧ New w.heap.size W' v (layW R C t xs) ∧ Below w.heap.size w W' := by
  have hm := mayM_iff.1 h
  have hml := sized_of hA
  have hlen : xs.length = R * C := by rw [← hml]; have := hm.2.2.2.2; exact_mod_cast this
  have hR : R ≤ 64 ∧ 1 ≤ R := by omega
  have hC : C ≤ 64 ∧ 1 ≤ C := by omega
  have hk := fun w => shape_check (a := a) (m := m) (cap := cap) (R := (R : Int)) (C := (C : Int)) (w := w)
  rw [show chkM (R : Int) (C : Int) m = 0 by unfold chkM; rw [h]; rfl] at hk
  have hz := fun w => mo_size (R := R) (C := C) (t := t) (w := w) hR.2 hR.1 hC.2 hC.1 ht h8
  have hN := sizN_le (M := max R C) (t := t) (by omega) ht h8
  have hpl : ∀ i j, i < R → j < C → plc i j t < sizN (max R C) t := fun i j hi hj => plc_lt (by omega) ht (by omega) (by omega)
  obtain ⟨bx, G⟩ := mbox w #[.int .i64 (R : Int), .int .i64 (C : Int), .slice a m cap] 24 _ rfl
  have HL := Lib.hid (show layW R C t xs = stw (sizN (max R C) t) C t xs (R * C) from rfl)
  have HST := Lib.hid (fun k => show stw (sizN (max R C) t) C t xs (k + 1) = (stw (sizN (max R C) t) C t xs k).set (plc (k / C) (k % C) t) (lim xs k) from rfl)
  have HLN := Lib.hid (fun k => stw_length (sizN (max R C) t) C t xs k)
  have HRP := Lib.hid (show stw (sizN (max R C) t) C t xs 0 = List.replicate (sizN (max R C) t) 0 from rfl)
  generalize layW R C t xs = ys at *
  generalize hsz : sizN (max R C) t = N at *
  clear hsz
  generalize stw N C t xs = F at *
  have hmk := make_u64 N (by omega)
  have HPL := Lib.hid hpl
  have HLEN := Lib.hid hlen
  have HA0 := Lib.hid (hA.behind bx)
  obtain ⟨T, a', c', hT, e, hcap, HA⟩ := (hA.behind bx).opened
  simp only [Value.slice.injEq] at e
  obtain ⟨rfl, rfl, rfl⟩ := e
  have HG := G
  have c00 := G.cell (i := 0) rfl
  have c01 := G.cell (i := 1) rfl
  have c02 := G.cell (i := 2) rfl
  clear hlen hml hm h hpl hA
  generalize xs.length = m at *
  go_enter Try.func41, Try.ntmps41
  go_wp2_with fail
  generalize w.alloc (.cells #[.int .i64 (R : Int), .int .i64 (C : Int), .slice a m cap] 24) = W0 at *
  refine (hk _).mono ?_
  rintro e w1 ⟨rfl, b1⟩
  clear hk c00 c01 c02
  have G1 := HG.behind b1
  have c00 := G1.cell (i := 0) rfl
  have c01 := G1.cell (i := 1) rfl
  have c02 := G1.cell (i := 2) rfl
  go_wp2_with fail
  refine (hz _).mono ?_
  rintro e w2 ⟨rfl, rfl⟩
  clear hz
  have hmk1 := hmk w1
  have hrow := Row.new w1 .u64 26 (List.replicate N 0)
  have c00' := (G1.behind (bel_new w1 (.cells (cellsOf .u64 (List.replicate N 0)) 26))).cell (i := 0) rfl
  rw [← HRP.out] at hrow hmk1 c00'
  clear hmk
  go_wp2
  have hB1 : Below w1.heap.size w1 (w1.alloc (.cells (cellsOf .u64 (F 0)) 26)) := bel_new w1 _
  clear hmk1
  generalize w1.alloc (.cells (cellsOf .u64 (F 0)) 26) = W2 at *
  go_loopw [33] (fun i wr => ∃ q : Nat, q ≤ R ∧ i = .int .i64 q ∧ Row .u64 26 wr w1.heap.size (F (q * C)) ∧ Below w1.heap.size w1 wr) (fun i _ => R - (intOf i).toNat)
  case atStart => exact ⟨0, Nat.zero_le _, rfl, by rw [Nat.zero_mul]; exact hrow, hB1⟩
  case round =>
    obtain ⟨q, hq, rfl, hrw, hB⟩ := hrel
    have c00 := (G1.behind hB).cell (i := 0) rfl
    have c01 := (G1.behind hB).cell (i := 1) rfl
    by_cases hlt : q < R
    · go_wp2
      have hrw0 : Row .u64 26 wr w1.heap.size (F (q * C + 0)) := hrw
      have hqc : q * C + C ≤ m := by
        have := Nat.mul_le_mul_right C (show q + 1 ≤ R from hlt)
        rw [Nat.add_mul, Nat.one_mul] at this
        have := HLEN.out
        omega
      clear hrw c00 c01
      obtain ⟨wo, rfl⟩ : ∃ wo : World, wo = wr := ⟨_, rfl⟩
      go_loopw [38] (fun j wi => ∃ r : Nat, r ≤ C ∧ j = .int .i64 r ∧ Row .u64 26 wi w1.heap.size (F (q * C + r)) ∧ Below w1.heap.size w1 wi) (fun j _ => C - (intOf j).toNat)
      case atStart => exact ⟨0, Nat.zero_le _, rfl, hrw0, hB⟩
      case round =>
        obtain ⟨r, hr, rfl, hrr, hBr⟩ := hrel
        by_cases hrt : r < C
        · have c01 := (G1.behind hBr).cell (i := 1) rfl
          have c02 := (G1.behind hBr).cell (i := 2) rfl
          have hix := fun w => mo_index (i := q) (j := r) (t := t) (w := w) (by omega) (by omega) ht h8
          obtain ⟨oa, rfl, ka⟩ := HA.out wr (below_both b1 hBr) (q * C + r) (by omega)
          obtain ⟨p1, p2⟩ := wplace (i := q) (C := C) (j := r) (by omega) hC.1 (by omega)
          have hpN := HPL.out q r hlt hrt
          have hFl := HLN.out (q * C + r)
          have hcl := hrr.cell (i := plc q r t) (by omega)
          have hfz := hrr.frozen (plc q r t)
          have HS : Hid (F (q * C + (r + 1)) = (F (q * C + r)).set (plc q r t) (lim xs (q * C + r))) := Lib.hid (by
            have h0 : 0 < C := by omega
            have e1 : (q * C + r) / C = q := by rw [Nat.mul_comm, Nat.mul_add_div h0, Nat.div_eq_of_lt hrt, Nat.add_zero]
            have e2 : (q * C + r) % C = r := by rw [Nat.mul_comm, Nat.mul_add_mod, Nat.mod_eq_of_lt hrt]
            have := HST.out (q * C + r)
            rw [e1, e2] at this
            exact this)
          have hpm : q * C + r < m := by omega
          generalize hP : q * C + r = P at *
          generalize q * C = Q at *
          generalize plc q r t = pl at *
          have HIX := Lib.hid hix
          clear hix hFl hP
          have hne : ¬ T = w1.heap.size := by have := b1.size; omega
          go_wp2_with fail
          go_region_with (first
            | (go_at_call 40; refine (HIX.out _).mono ?_; rintro e w4 ⟨rfl, n4, rfl⟩))
          all_goals
            go_wp2
            refine ⟨⟨r + 1, by omega, by simp, ?_, ?_⟩, by simp [intOf]; omega⟩
            · rw [HS.out]
              exact Row.set (W := wr.drewN _) hrr _ _
            · exact (below_both hBr (below_drewN _ _ _)).setCell (p := ⟨_, _, none⟩) (Nat.le_refl _) _
        · obtain rfl : r = C := by omega
          have c01 := (G1.behind hBr).cell (i := 1) rfl
          go_wp2
          go_roundw
          case rel => exact ⟨q + 1, by omega, by simp, by rw [Nat.add_mul, Nat.one_mul]; exact hrr, hBr⟩
          case measure => simp [intOf]; omega
    · obtain rfl : q = R := by omega
      rw [← HL.out] at hrw
      have hly : ys.length = N := by rw [HL.out]; exact HLN.out _
      go_wp2
      go_ret2
      refine ⟨_, rfl, ?_, below_both bx (below_both b1 hB)⟩
      have := hrw.rd N (by omega)
      rw [hly] at this
      exact ⟨w1.heap.size, this, hrw.lt, .inr (by have := bx.size; have := b1.size; omega)⟩
end Go.Proofs.Ytaefalmabphadaa
