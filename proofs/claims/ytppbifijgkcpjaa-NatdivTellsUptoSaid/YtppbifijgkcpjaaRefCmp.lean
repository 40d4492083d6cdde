/- vernierref01.Cmp: how two of the document's own naturals stand. -/
import Derived.Test.YtppbifijgkcpjaaRefCut
namespace Go.Proofs.Ytppbifijgkcpjaa
open Go.RowKit Go.Shelf

set_option maxHeartbeats 2000000 in
theorem refCmp_calls (ba bb : Nat) (va vb : Value) (M N : Nat) (hxl : (digs 65536 M).length ≤ 9223372036854775806) (hyl : (digs 65536 N).length ≤ 9223372036854775806) (w : World) (hA : IAt ba w va (digs 65536 M)) (hB : IAt bb w vb (digs 65536 N)) :
    Calls Try.prog 24 #[va, vb] w fun e w' => e = .returned (.int .i64 (cmpN M N)) ∧ ∃ q, w' = w.drewN q := by
  obtain ⟨a, cap, rfl, hcap, hsa⟩ := hA.slice
  obtain ⟨b, cbp, rfl, hcbp, hsb⟩ := hB.slice
  have hP := digs_low (B := 65536) (by decide) M
  have hQ := digs_low (B := 65536) (by decide) N
  have hPc := cutz_digs (B := 65536) (by decide) M
  have hQc := cutz_digs (B := 65536) (by decide) N
  have hM : Hid (M = val 65536 (digs 65536 M)) := Lib.hid (val_digs (by decide) M).symm
  have hN : Hid (N = val 65536 (digs 65536 N)) := Lib.hid (val_digs (by decide) N).symm
  generalize digs 65536 M = P at *
  generalize digs 65536 N = Q at *
  have HSA := Lib.hid hsa
  have HSB := Lib.hid hsb
  have HA := Lib.hid hA
  have HB := Lib.hid hB
  have HPC := Lib.hid hPc
  have HQC := Lib.hid hQc
  clear hsa hsb hA hB hPc hQc
  by_cases hl : P.length = Q.length
  · have hle : P.length ≤ Q.length ∧ Q.length ≤ P.length := by omega
    have hd : ((P.length : Int) != (Q.length : Int)) = false := by simp [hl]
    have hd' : (P.length != Q.length) = false := by simp [hl]
    have HL := Lib.hid hl
    clear hl
    go_enter Try.func24, Try.ntmps24
    go_wp2
    go_loopw [5] (fun i wr => ∃ (r : Nat) (z : Int), r ≤ P.length ∧ z + 1 = r ∧ i = .int .i64 z ∧ Hid (∀ j, r ≤ j → j < P.length → lim P j = lim Q j) ∧ ∃ q, wr = w.drewN q) (fun i _ => (intOf i + 1).toNat)
    case atStart => exact ⟨P.length, _, Nat.le_refl _, by omega, rfl, Lib.hid (fun j h1 h2 => absurd h2 (by omega)), 0, rfl⟩
    case round =>
      obtain ⟨r, z, hr, hz, rfl, hs, q, rfl⟩ := hrel
      rcases Nat.eq_zero_or_pos r with rfl | h0
      · obtain rfl : z = -1 := by omega
        have hfin : Hid (cmpN M N = 0) := Lib.hid (by
          have e : P = Q := lim_ext HL.out fun j hj => hs.out j (Nat.zero_le _) hj
          rw [hM.out, hN.out, e, cmpN_self])
        go_wp2
        go_ret
        exact ⟨ret_int hfin.out.symm, q, rfl⟩
      · obtain ⟨t, rfl⟩ : ∃ t, r = t + 1 := ⟨r - 1, by omega⟩
        obtain rfl : z = (t : Int) := by omega
        obtain ⟨oa, rfl⟩ := HSA.out (by omega)
        obtain ⟨ob, rfl⟩ := HSB.out (by omega)
        have ht : t < P.length := by omega
        have ht2 : t < Q.length := by omega
        have ka := HA.out.cell (j := t) ht
        have kb := HB.out.cell (j := t) ht2
        rcases Nat.lt_trichotomy (lim P t) (lim Q t) with h | h | h
        · have hfin : Hid (cmpN M N = -1) := Lib.hid (by rw [hM.out, hN.out]; exact cmpN_lt (val_lt_at (by decide) hP hQ HL.out ht (fun j h1 h2 => hs.out j h1 h2) h))
          go_wp2
          go_quiet (fail)
          go_wp2
          go_ret
          exact ⟨ret_int hfin.out.symm, _, by rw [World.drewN_drewN]⟩
        · have h1 : lim P t ≤ lim Q t := by omega
          have h2 : lim Q t ≤ lim P t := by omega
          have H := Lib.hid h
          clear h
          go_wp2
          go_quiet (fail)
          go_wp2
          go_quiet (fail)
          go_wp2
          go_roundw
          case rel =>
            refine ⟨t, (t : Int) - 1, by omega, by omega, rfl, Lib.hid (fun j h1 h2 => ?_), _, rfl⟩
            rcases Nat.lt_or_ge t j with h3 | h3
            · exact hs.out j h3 h2
            · obtain rfl : j = t := by omega
              exact H.out
          case measure => simp [intOf]
        · have hfin : Hid (cmpN M N = 1) := Lib.hid (by rw [hM.out, hN.out]; exact cmpN_gt (val_lt_at (by decide) hQ hP HL.out.symm ht2 (fun j h1 h2 => (hs.out j h1 (by omega)).symm) h))
          have h1 : ¬ (lim P t < lim Q t) := by omega
          go_wp2
          go_quiet (fail)
          go_wp2
          go_quiet (fail)
          go_wp2
          go_ret
          exact ⟨ret_int hfin.out.symm, _, by rw [World.drewN_drewN, World.drewN_drewN]⟩
  · have hd : ((P.length : Int) != (Q.length : Int)) = true := by simp; omega
    have hd' : (P.length != Q.length) = true := by simp; omega
    rcases Nat.lt_or_ge P.length Q.length with h | h
    · have hfin : Hid (cmpN M N = -1) := Lib.hid (by rw [hM.out, hN.out]; exact cmpN_lt (low_length_lt (by decide) hP HQC.out h))
      clear hl
      go_enter Try.func24, Try.ntmps24
      go_wp2
      go_ret
      exact ⟨ret_int hfin.out.symm, 0, rfl⟩
    · have h' : Q.length < P.length := by omega
      have hfin : Hid (cmpN M N = 1) := Lib.hid (by rw [hM.out, hN.out]; exact cmpN_gt (low_length_lt (by decide) hQ HPC.out h'))
      clear hl
      go_enter Try.func24, Try.ntmps24
      go_wp2
      go_ret
      exact ⟨ret_int hfin.out.symm, 0, rfl⟩
end Go.Proofs.Ytppbifijgkcpjaa
