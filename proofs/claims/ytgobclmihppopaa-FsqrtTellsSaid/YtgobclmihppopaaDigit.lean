/- natdiv.takeDigit: how often a divisor is in a stretch of words; what is left stays there. -/
import Derived.Test.YtgobclmihppopaaTake
import Derived.Test.YtgobclmihppopaaDiv64
import Derived.Test.YtgobclmihppopaaSame
namespace Go.Proofs.Ytgobclmihppopaa
open Go.RowKit Go.Shelf

set_option maxRecDepth 100000 in
set_option maxHeartbeats 4000000 in
theorem takeDigit_calls (S off cap bQ : Nat) (vq : Value) (s Q : List Nat) (hs : Low 18446744073709551616 s) (hQ : Low 18446744073709551616 Q) (hoff : off + Q.length < s.length) (hcap : Q.length + 1 ≤ cap) (hQ0 : 0 < Q.length) (hQl : Q.length ≤ 17592186044416)
    (ht : 9223372036854775808 ≤ lim Q (Q.length - 1)) (hV : pv s off (Q.length + 1) < val 18446744073709551616 Q * 18446744073709551616)
    (w : World) (hS : Row .u64 22 w S s) (hbQ : bQ < w.heap.size) (hne : bQ ≠ S) (hB : RdAt bQ w vq Q) :
    Calls Try.prog 104 #[.slice (some ⟨S, off, none⟩) (Q.length + 1) cap, vq] w fun e W' => e = .returned (.int .u64 ((pv s off (Q.length + 1) / val 18446744073709551616 Q : Nat) : Int)) ∧
      ∃ t, Row .u64 22 W' S t ∧ t.length = s.length ∧ Low 18446744073709551616 t ∧ (∀ i, (i < off ∨ off + Q.length < i) → lim t i = lim s i) ∧ pv t off (Q.length + 1) = pv s off (Q.length + 1) % val 18446744073709551616 Q ∧ Off S w W' := by
  obtain ⟨aQ, capQ, rfl, hcapQ, hsome⟩ := hB.slice
  obtain ⟨oQ, rfl⟩ := hsome hQ0
  clear hsome
  have hge := gd_ge (off := off) hQ hs hQ0 (by omega) hV
  have hQv : 0 < val 18446744073709551616 Q := by
    rcases Nat.eq_zero_or_pos (val 18446744073709551616 Q) with h | h
    · rw [h] at hV; simp at hV
    · exact h
  have htk := fun (x : Nat) (hx : x < 18446744073709551616) => td_take (off := off) (x := x) hQ hs hx hoff
  have c1 := hS.cell hoff
  have c2 := hS.cell (i := off + (Q.length - 1)) (by omega)
  have c3 := hB.cell (j := Q.length - 1) (by omega)
  have hh := lim_lt hs (by decide) (off + Q.length)
  have hn := lim_lt hs (by decide) (off + (Q.length - 1))
  have htl := lim_lt hQ (by decide) (Q.length - 1)
  have z1 : IntKind.i64.wrap ((Q.length : Int) - 1) = ((Q.length - 1 : Nat) : Int) := by rw [IntWalk.i64_in _ (by omega)]; omega
  have hm1 : Q.length - 1 < Q.length := by omega
  generalize Q.length - 1 = m at *
  generalize lim Q m = top at *
  generalize lim s (off + m) = next at *
  have hgc := fun (u : World) => guess_calls (lim s (off + Q.length)) next top hh hn ht htl u
  obtain ⟨hg1, hg2⟩ := hge
  generalize gd (lim s (off + Q.length)) next top = x0 at *
  have HGC := Lib.hid hgc
  have HTK := Lib.hid (htk x0 hg2 hg1)
  clear hgc htk
  have i1 : (m : Int) < (Q.length : Int) := by omega
  have i2 : (m : Int) < (Q.length : Int) + 1 := by omega
  have i3 : (Q.length : Int) < (Q.length : Int) + 1 := by omega
  go_enter Try.func104, Try.ntmps104
  go_wp2
  go_quiet ((go_at_call 109; exact Calls.quiet_of (HGC.out _)))
  clear z1
  have hS1 : Row .u64 22 (w.drewN nq) S s := hS
  have hB1 : RdAt bQ (w.drewN nq) (.slice (some ⟨bQ, oQ, none⟩) Q.length capQ) Q := hB.kept rfl
  have hb1 : bQ < (w.drewN nq).heap.size := hbQ
  have hO1 : Off S w (w.drewN nq) := (Off.refl S w).below (below_drewN _ _ _)
  clear c1 c2 c3
  generalize w.drewN nq = w1 at *
  go_wp2_with fail
  refine (takeRow_calls S off cap bQ _ s Q x0 hs hQ hg2 (by omega) (by omega) (by omega) _ hS1 hb1 hne hB1).mono ?_
  rintro e w2 ⟨rfl, hr2, hO2⟩
  obtain ⟨f1, f2, f3, f4⟩ := tk_fine off hQ hs hg2 Q.length
  have HF4 : Hid (lim (tkS Q x0 off s Q.length).1 (off + Q.length) = lim s (off + Q.length)) := Lib.hid (f4 _ (Nat.le_refl _))
  have hO : Off S w w2 := ⟨hO2.os.trans hO1.os, hO2.tape.trans hO1.tape, hO2.output.trans hO1.output, Nat.le_trans hO1.size hO2.size, fun i hi hn => (hO2.block i (Nat.lt_of_lt_of_le hi hO1.size) hn).trans (hO1.block i hi hn)⟩
  have k1 := hr2.cell (i := off + Q.length) (by omega)
  rw [HF4.out] at k1
  have g1 := hr2.frozen (off + Q.length)
  generalize tkS Q x0 off s Q.length = r at *
  have h64 : ∀ u : World, (callFunc 74 #[.int .u64 (lim s (off + Q.length) : Int), .int .u64 (r.2 : Int), .int .u64 0]).run Try.prog u = .ok (.value (.tuple #[.int .u64 (sub64 (lim s (off + Q.length)) r.2 0 : Int), .int .u64 (borrow64 (lim s (off + Q.length)) r.2 0 : Int)])) u := sub64_run _ _ 0 (by omega)
  have nr := hr2.set (off + Q.length) (sub64 (lim s (off + Q.length)) r.2 0)
  have nO := hO.set (p := ⟨S, off + Q.length, none⟩) (.inl rfl) (.int .u64 (sub64 (lim s (off + Q.length)) r.2 0 : Int))
  generalize sub64 (lim s (off + Q.length)) r.2 0 = d0 at *
  generalize borrow64 (lim s (off + Q.length)) r.2 0 = bo0 at *
  clear f1 f2 f3 f4 hr2 hO hO1 hO2 HGC hS1 hB1
  go_wp2
  go_loopw [6, 7, 8] (fun x bo _ wr => ∃ (X b : Nat) (t : List Nat), x = .int .u64 (X : Int) ∧ bo = .int .u64 (b : Int) ∧ b ≤ 1 ∧ X < 18446744073709551616 ∧ Hid (Td s Q off X b t) ∧ Row .u64 22 wr S t ∧ Off S w wr) (fun x _ _ _ => (intOf x).toNat)
  case atStart => exact ⟨x0, bo0, _, rfl, rfl, HTK.out.bo1, hg2, HTK, nr, nO⟩
  case round =>
    obtain ⟨X, b, t, rfl, rfl, hb1', hX, hTd, hr, hO⟩ := hrel
    clear nr nO h64 k1 g1 HTK HF4
    rcases Nat.eq_zero_or_pos b with rfl | hb0
    · obtain ⟨e1, e2⟩ := td_done hTd.out hQv
      have E1 := Lib.hid e1
      have E2 := Lib.hid e2
      clear e1 e2
      go_wp2
      go_ret
      exact ⟨ret_int (by rw [E1.out]), t, hr, hTd.out.len, hTd.out.low, hTd.out.out, E2.out, hO⟩
    · obtain rfl : b = 1 := by omega
      obtain ⟨hX1, hc1, hTd2⟩ := td_put hQ hTd.out hoff
      have htlow := hTd.out.low
      have htlen := hTd.out.len
      have hlt := lim_lt htlow (by decide) (off + Q.length)
      obtain ⟨f1, f2, f3, f4⟩ := pu_fine off hQ htlow Q.length
      have HF4 : Hid (lim (puS Q off t Q.length).1 (off + Q.length) = lim t (off + Q.length)) := Lib.hid (f4 _ (Nat.le_refl _))
      have hB1 : RdAt bQ wr (.slice (some ⟨bQ, oQ, none⟩) Q.length capQ) Q := hB.kept (hO.block bQ hbQ hne)
      have hb1 : bQ < wr.heap.size := Nat.lt_of_lt_of_le hbQ hO.size
      have hoff2 : off + Q.length ≤ t.length := by omega
      have hoff3 : off + Q.length < (puS Q off t Q.length).1.length := by omega
      have hpc := putRow_calls S off cap bQ _ t Q htlow hQ hoff2 (by omega) (by omega) wr hr hb1 hne hB1
      obtain ⟨X', hX'⟩ : ∃ X', X' = X - 1 := ⟨_, rfl⟩
      rw [← hX'] at hTd2
      have e1 : (X : Int) - 1 = (X' : Int) := by omega
      have hm1 : X' < X := by omega
      have HLEN := Lib.hid htlen
      clear hX' f1 f3 f4 htlen
      generalize puS Q off t Q.length = r at *
      have h64 : ∀ u : World, (callFunc 95 #[.int .u64 (lim t (off + Q.length) : Int), .int .u64 (r.2 : Int), .int .u64 0]).run Try.prog u = .ok (.value (.tuple #[.int .u64 (add64 (lim t (off + Q.length)) r.2 0 : Int), .int .u64 (carry64 (lim t (off + Q.length)) r.2 0 : Int)])) u := add64_run _ _ 0 (by omega)
      generalize add64 (lim t (off + Q.length)) r.2 0 = d1 at *
      generalize carry64 (lim t (off + Q.length)) r.2 0 = c1 at *
      obtain ⟨b', hb'⟩ : ∃ b', b' = 1 - c1 := ⟨_, rfl⟩
      rw [← hb'] at hTd2
      have e2 : (1 : Int) - (c1 : Int) = (b' : Int) := by omega
      have hbl : b' ≤ 1 := by omega
      have HT2 := Lib.hid hTd2
      clear hb' hTd2
      go_wp2_with fail
      refine hpc.mono ?_
      rintro e w2 ⟨rfl, hr2, hO2⟩
      have hO3 : Off S w w2 := ⟨hO2.os.trans hO.os, hO2.tape.trans hO.tape, hO2.output.trans hO.output, Nat.le_trans hO.size hO2.size, fun i hi hn => (hO2.block i (Nat.lt_of_lt_of_le hi hO.size) hn).trans (hO.block i hi hn)⟩
      have k1 := hr2.cell hoff3
      rw [HF4.out] at k1
      have g1 := hr2.frozen (off + Q.length)
      have nr := hr2.set (off + Q.length) d1
      have nO := hO3.set (p := ⟨S, off + Q.length, none⟩) (.inl rfl) (.int .u64 (d1 : Int))
      clear hpc hB1 hr hO hO2
      go_wp2
      go_roundw
      case rel => exact ⟨X', b', _, rfl, rfl, hbl, by omega, HT2, nr, nO⟩
      case measure => simp [intOf]; exact hm1
end Go.Proofs.Ytgobclmihppopaa
