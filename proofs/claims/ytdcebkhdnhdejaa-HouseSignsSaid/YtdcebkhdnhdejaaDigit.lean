/- natdiv.takeDigit: how often a divisor is in a stretch of words; what is left stays there. -/
import Derived.Test.YtdcebkhdnhdejaaTake
import Derived.Test.YtdcebkhdnhdejaaDiv64
import Derived.Test.YtdcebkhdnhdejaaSame
import Derived.Test.YtdcebkhdnhdejaaBitNum
import Derived.Test.YtdcebkhdnhdejaaState
namespace Go.Proofs.Ytdcebkhdnhdejaa
open Go.RowKit Go.Shelf

set_option maxRecDepth 100000 in
set_option maxHeartbeats 4000000 in
theorem takeDigit_calls (S off cap bQ : Nat) (vq : Value) (s Q : List Nat) (hs : Low 18446744073709551616 s) (hQ : Low 18446744073709551616 Q) (hoff : off + Q.length < s.length) (hcap : Q.length + 1 ≤ cap) (hQ0 : 0 < Q.length) (hQl : Q.length ≤ 17592186044416)
    (ht : 9223372036854775808 ≤ lim Q (Q.length - 1)) (hV : pv s off (Q.length + 1) < val 18446744073709551616 Q * 18446744073709551616)
    (w : World) (hS : Row .u64 32 w S s) (hbQ : bQ < w.heap.size) (hne : bQ ≠ S) (hB : RdAt bQ w vq Q) :
    Calls Try.prog 174 #[.slice (some ⟨S, off, none⟩) (Q.length + 1) cap, vq] w fun e W' => e = .returned (.int .u64 ((pv s off (Q.length + 1) / val 18446744073709551616 Q : Nat) : Int)) ∧
      ∃ t, Row .u64 32 W' S t ∧ t.length = s.length ∧ Low 18446744073709551616 t ∧ (∀ i, (i < off ∨ off + Q.length < i) → lim t i = lim s i) ∧ pv t off (Q.length + 1) = pv s off (Q.length + 1) % val 18446744073709551616 Q ∧ Off S w W' := by
  obtain ⟨aQ, capQ, rfl, hcapQ, hsome⟩ := hB.slice
  obtain ⟨oQ, rfl⟩ := hsome hQ0
  clear hsome
  have hge := gd_ge (off := off) hQ hs hQ0 (by omega) hV
  have hQv : 0 < val 18446744073709551616 Q := by
    rcases Nat.eq_zero_or_pos (val 18446744073709551616 Q) with h | h
    · rw [h] at hV; simp at hV
    · exact h
  have htk := fun (x : Nat) (hx : x < 18446744073709551616) => td_take (off := off) (x := x) hQ hs hx hoff
  have c1 := hS.cell hoff
  have c2 := hS.cell (i := off + (Q.length - 1)) (by omega)
  have c3 := hB.cell (j := Q.length - 1) (by omega)
  have hh := lim_lt hs (by decide) (off + Q.length)
  have hn := lim_lt hs (by decide) (off + (Q.length - 1))
  have htl := lim_lt hQ (by decide) (Q.length - 1)
  have z1 : IntKind.i64.wrap ((Q.length : Int) - 1) = ((Q.length - 1 : Nat) : Int) := by rw [IntWalk.i64_in _ (by omega)]; omega
  have hm1 : Q.length - 1 < Q.length := by omega
  generalize Q.length - 1 = m at *
  generalize lim Q m = top at *
  generalize lim s (off + m) = next at *
  have hgc := fun (u : World) => guess_calls (lim s (off + Q.length)) next top hh hn ht htl u
  obtain ⟨hg1, hg2⟩ := hge
  generalize gd (lim s (off + Q.length)) next top = x0 at *
  have HGC := Lib.hid hgc
  have HTK := Lib.hid (htk x0 hg2 hg1)
  clear hgc htk
  have i1 : (m : Int) < (Q.length : Int) := by omega
  have i2 : (m : Int) < (Q.length : Int) + 1 := by omega
  have i3 : (Q.length : Int) < (Q.length : Int) + 1 := by omega
  go_enter Try.func174, Try.ntmps174
  go_wp2
  go_quiet ((go_at_call 179; exact Calls.quiet_of (HGC.out _)))
  clear z1
  have hS1 : Row .u64 32 (w.drewN nq) S s := hS
  have hB1 : RdAt bQ (w.drewN nq) (.slice (some ⟨bQ, oQ, none⟩) Q.length capQ) Q := hB.kept rfl
  have hb1 : bQ < (w.drewN nq).heap.size := hbQ
  have hO1 : Off S w (w.drewN nq) := (Off.refl S w).below (below_drewN _ _ _)
  clear c1 c2 c3
  generalize w.drewN nq = w1 at *
  go_wp2_with fail
  refine (takeRow_calls S off cap bQ _ s Q x0 hs hQ hg2 (by omega) (by omega) (by omega) _ hS1 hb1 hne hB1).mono ?_
  rintro e w2 ⟨rfl, hr2, hO2⟩
  obtain ⟨f1, f2, f3, f4⟩ := tk_fine off hQ hs hg2 Q.length
  have HF4 : Hid (lim (tkS Q x0 off s Q.length).1 (off + Q.length) = lim s (off + Q.length)) := Lib.hid (f4 _ (Nat.le_refl _))
  have hO : Off S w w2 := ⟨hO2.os.trans hO1.os, hO2.tape.trans hO1.tape, hO2.output.trans hO1.output, Nat.le_trans hO1.size hO2.size, fun i hi hn => (hO2.block i (Nat.lt_of_lt_of_le hi hO1.size) hn).trans (hO1.block i hi hn)⟩
  have k1 := hr2.cell (i := off + Q.length) (by omega)
  rw [HF4.out] at k1
  have g1 := hr2.frozen (off + Q.length)
  generalize tkS Q x0 off s Q.length = r at *
  have h64 : ∀ u : World, (callFunc 140 #[.int .u64 (lim s (off + Q.length) : Int), .int .u64 (r.2 : Int), .int .u64 0]).run Try.prog u = .ok (.value (.tuple #[.int .u64 (sub64 (lim s (off + Q.length)) r.2 0 : Int), .int .u64 (borrow64 (lim s (off + Q.length)) r.2 0 : Int)])) u := sub64_run _ _ 0 (by omega)
  have nr := hr2.set (off + Q.length) (sub64 (lim s (off + Q.length)) r.2 0)
  have nO := hO.set (p := ⟨S, off + Q.length, none⟩) (.inl rfl) (.int .u64 (sub64 (lim s (off + Q.length)) r.2 0 : Int))
  generalize sub64 (lim s (off + Q.length)) r.2 0 = d0 at *
  generalize borrow64 (lim s (off + Q.length)) r.2 0 = bo0 at *
  clear f1 f2 f3 f4 hr2 hO hO1 hO2 HGC hS1 hB1
  go_wp2
  go_loopw [6, 7, 8] (fun x bo _ wr => ∃ (X b : Nat) (t : List Nat), x = .int .u64 (X : Int) ∧ bo = .int .u64 (b : Int) ∧ b ≤ 1 ∧ X < 18446744073709551616 ∧ Hid (Td s Q off X b t) ∧ Row .u64 32 wr S t ∧ Off S w wr) (fun x _ _ _ => (intOf x).toNat)
  case atStart => exact ⟨x0, bo0, _, rfl, rfl, HTK.out.bo1, hg2, HTK, nr, nO⟩
  case round =>
    obtain ⟨X, b, t, rfl, rfl, hb1', hX, hTd, hr, hO⟩ := hrel
    clear nr nO h64 k1 g1 HTK HF4
    rcases Nat.eq_zero_or_pos b with rfl | hb0
    · obtain ⟨e1, e2⟩ := td_done hTd.out hQv
      have E1 := Lib.hid e1
      have E2 := Lib.hid e2
      clear e1 e2
      go_wp2
      go_ret
      exact ⟨ret_int (by rw [E1.out]), t, hr, hTd.out.len, hTd.out.low, hTd.out.out, E2.out, hO⟩
    · obtain rfl : b = 1 := by omega
      obtain ⟨hX1, hc1, hTd2⟩ := td_put hQ hTd.out hoff
      have htlow := hTd.out.low
      have htlen := hTd.out.len
      have hlt := lim_lt htlow (by decide) (off + Q.length)
      obtain ⟨f1, f2, f3, f4⟩ := pu_fine off hQ htlow Q.length
      have HF4 : Hid (lim (puS Q off t Q.length).1 (off + Q.length) = lim t (off + Q.length)) := Lib.hid (f4 _ (Nat.le_refl _))
      have hB1 : RdAt bQ wr (.slice (some ⟨bQ, oQ, none⟩) Q.length capQ) Q := hB.kept (hO.block bQ hbQ hne)
      have hb1 : bQ < wr.heap.size := Nat.lt_of_lt_of_le hbQ hO.size
      have hoff2 : off + Q.length ≤ t.length := by omega
      have hoff3 : off + Q.length < (puS Q off t Q.length).1.length := by omega
      have hpc := putRow_calls S off cap bQ _ t Q htlow hQ hoff2 (by omega) (by omega) wr hr hb1 hne hB1
      obtain ⟨X', hX'⟩ : ∃ X', X' = X - 1 := ⟨_, rfl⟩
      rw [← hX'] at hTd2
      have e1 : (X : Int) - 1 = (X' : Int) := by omega
      have hm1 : X' < X := by omega
      have HLEN := Lib.hid htlen
      clear hX' f1 f3 f4 htlen
      generalize puS Q off t Q.length = r at *
      have h64 : ∀ u : World, (callFunc 166 #[.int .u64 (lim t (off + Q.length) : Int), .int .u64 (r.2 : Int), .int .u64 0]).run Try.prog u = .ok (.value (.tuple #[.int .u64 (add64 (lim t (off + Q.length)) r.2 0 : Int), .int .u64 (carry64 (lim t (off + Q.length)) r.2 0 : Int)])) u := add64_run _ _ 0 (by omega)
      generalize add64 (lim t (off + Q.length)) r.2 0 = d1 at *
      generalize carry64 (lim t (off + Q.length)) r.2 0 = c1 at *
      obtain ⟨b', hb'⟩ : ∃ b', b' = 1 - c1 := ⟨_, rfl⟩
      rw [← hb'] at hTd2
      have e2 : (1 : Int) - (c1 : Int) = (b' : Int) := by omega
      have hbl : b' ≤ 1 := by omega
      have HT2 := Lib.hid hTd2
      clear hb' hTd2
      go_wp2_with fail
      refine hpc.mono ?_
      rintro e w2 ⟨rfl, hr2, hO2⟩
      have hO3 : Off S w w2 := ⟨hO2.os.trans hO.os, hO2.tape.trans hO.tape, hO2.output.trans hO.output, Nat.le_trans hO.size hO2.size, fun i hi hn => (hO2.block i (Nat.lt_of_lt_of_le hi hO.size) hn).trans (hO.block i hi hn)⟩
      have k1 := hr2.cell hoff3
      rw [HF4.out] at k1
      have g1 := hr2.frozen (off + Q.length)
      have nr := hr2.set (off + Q.length) d1
      have nO := hO3.set (p := ⟨S, off + Q.length, none⟩) (.inl rfl) (.int .u64 (d1 : Int))
      clear hpc hB1 hr hO hO2
      go_wp2
      go_roundw
      case rel => exact ⟨X', b', _, rfl, rfl, hbl, by omega, HT2, nr, nO⟩
      case measure => simp [intOf]; exact hm1
end Go.Proofs.Ytdcebkhdnhdejaa

/- What natdiv.DivMod reckons: plain numbers. -/
namespace Go.Proofs.Ytdcebkhdnhdejaa

theorem part_of_lt {B : Nat} {s : List Nat} {j : Nat} (h : val B s < B ^ j) : part B s j = val B s := by
  rcases Nat.lt_or_ge s.length j with hl | hl
  · exact part_ge B s j (by omega)
  · have h1 := val_split (B := B) hl
    have h2 : B ^ j * val B (s.drop j) < B ^ j * 1 := by omega
    have h3 := Nat.lt_of_mul_lt_mul_left h2
    have h4 : val B (s.drop j) = 0 := by omega
    rw [h4] at h1
    omega
theorem val_same_high {B : Nat} {s t : List Nat} {j : Nat} (hl : t.length = s.length) (hj : j ≤ s.length) (h : ∀ i, j ≤ i → lim t i = lim s i) : val B t + part B s j = val B s + part B t j := by
  have h1 := val_split (B := B) hj
  have h2 := val_split (B := B) (s := t) (j := j) (by omega)
  have h3 : t.drop j = s.drop j := lim_ext (by simp [hl]) (fun i _ => by rw [lim_drop, lim_drop, h _ (by omega)])
  rw [h3] at h2
  omega
/-- k of the quotient's N digits are reckoned: the rest is R, the quotient Q -/
structure Dm (U D L N k : Nat) (R Q : List Nat) : Prop where
  rl : R.length = N + L
  rlow : Low 18446744073709551616 R
  ql : Q.length = N
  qlow : Low 18446744073709551616 Q
  qz : ∀ i, i + k < N → lim Q i = 0
  eqn : val 18446744073709551616 R + val 18446744073709551616 Q * D = U
  lt : val 18446744073709551616 R < D * 18446744073709551616 ^ (N - k)
theorem dm_start {U D L N : Nat} {R : List Nat} (rl : R.length = N + L) (rlow : Low 18446744073709551616 R) (hR : val 18446744073709551616 R = U) (hU : U < D * 18446744073709551616 ^ N) : Dm U D L N 0 R (List.replicate N 0) := by
  have hz : val 18446744073709551616 (List.replicate N 0) = 0 := val_zeros _ _ (fun x hx => (List.mem_replicate.1 hx).2)
  refine ⟨rl, rlow, by simp, fun x hx => by rw [(List.mem_replicate.1 hx).2]; decide, fun i hi => ?_, by rw [hz]; omega, by rw [hR]; exact hU⟩
  unfold lim
  rw [List.getElem?_replicate]
  split <;> rfl
section
variable {U D L N k : Nat} {R Q : List Nat} (h : Dm U D L N k R Q)
include h
theorem dm_word (hk : k < N) : pv R (N - 1 - k) (L + 1) < D * 18446744073709551616 := by
  obtain ⟨h1, _, _, _, _, _, h7⟩ := h
  have e : N - k = N - 1 - k + 1 := by omega
  rw [e] at h7
  generalize N - 1 - k = j at *
  have h8 := val_split (B := 18446744073709551616) (s := R) (j := j + (L + 1)) (by omega)
  rw [part_drop] at h8
  rw [Nat.pow_succ, ← Nat.mul_assoc, Nat.mul_comm _ 18446744073709551616, ← Nat.mul_assoc, Nat.mul_comm _ (18446744073709551616 ^ j), Nat.mul_comm 18446744073709551616 D] at h7
  have h9 : 18446744073709551616 ^ j * pv R j (L + 1) < 18446744073709551616 ^ j * (D * 18446744073709551616) := by
    show 18446744073709551616 ^ j * part _ _ _ < _
    omega
  exact Nat.lt_of_mul_lt_mul_left h9
theorem dm_step (hD : D < 18446744073709551616 ^ L) (hD0 : 0 < D) (hk : k < N) {t : List Nat} (tl : t.length = R.length) (tlow : Low 18446744073709551616 t) (tout : ∀ i, (i < N - 1 - k ∨ N - 1 - k + L < i) → lim t i = lim R i)
    (tv : pv t (N - 1 - k) (L + 1) = pv R (N - 1 - k) (L + 1) % D) : Dm U D L N (k + 1) t (Q.set (N - 1 - k) (pv R (N - 1 - k) (L + 1) / D)) := by
  have hw := dm_word h hk
  obtain ⟨h1, h2, h3, h4, h5, h6, h7⟩ := h
  have e : N - (k + 1) = N - 1 - k := by omega
  have e2 : N - k = N - 1 - k + 1 := by omega
  have hj : N - 1 - k < N := by omega
  have hq0 : lim Q (N - 1 - k) = 0 := h5 _ (by omega)
  have h5' : ∀ i, i < N - 1 - k → lim Q i = 0 := fun i hi => h5 i (by omega)
  have h5'' : ∀ i, i + (k + 1) < N → i < N - 1 - k := fun i hi => by omega
  rw [e2] at h7
  generalize N - 1 - k = j at *
  have hset := val_set (B := 18446744073709551616) (s := Q) (i := j) (pv R j (L + 1) / D) (by omega)
  rw [hq0] at hset
  have hp1 : part 18446744073709551616 R (j + (L + 1)) = val 18446744073709551616 R := by
    refine part_of_lt (Nat.lt_of_lt_of_le h7 ?_)
    have h8 := Nat.mul_le_mul_right (18446744073709551616 ^ (j + 1)) (Nat.le_of_lt hD)
    rwa [← Nat.pow_add, show L + (j + 1) = j + (L + 1) by omega] at h8
  have hsame := val_same_high (B := 18446744073709551616) tl (j := j + (L + 1)) (by omega) (fun i hi => tout i (.inr (by omega)))
  rw [hp1] at hsame
  have hvt : val 18446744073709551616 t = part 18446744073709551616 R j + 18446744073709551616 ^ j * (pv R j (L + 1) % D) := by
    have h8 := part_drop 18446744073709551616 t j (L + 1)
    have h9 : part 18446744073709551616 t j = part 18446744073709551616 R j := part_congr fun i hi => tout i (.inl hi)
    rw [h9] at h8
    have h10 : part 18446744073709551616 (t.drop j) (L + 1) = pv R j (L + 1) % D := tv
    rw [h10] at h8
    omega
  have hvR : val 18446744073709551616 R = part 18446744073709551616 R j + 18446744073709551616 ^ j * pv R j (L + 1) := by rw [← hp1, part_drop]
  have hdm := Nat.div_add_mod (pv R j (L + 1)) D
  have hlt := Nat.mod_lt (pv R j (L + 1)) hD0
  have hql : pv R j (L + 1) / D < 18446744073709551616 := (Nat.div_lt_iff_lt_mul hD0).2 (by rw [Nat.mul_comm]; exact hw)
  have hpl := part_lt h2 (by decide) j
  generalize pv R j (L + 1) = P at *
  generalize P % D = m at *
  generalize P / D = q at *
  refine ⟨by omega, tlow, by simpa using h3, low_set h4 hql, fun i hi => ?_, ?_, ?_⟩
  · rw [lim_set, if_neg (by have := h5'' i hi; omega)]
    exact h5' i (h5'' i hi)
  · rw [← h6, hvt, hvR, ← hdm]
    have h11 : val 18446744073709551616 (Q.set j q) = val 18446744073709551616 Q + 18446744073709551616 ^ j * q := by omega
    rw [h11, Nat.add_mul, Nat.mul_add, Nat.mul_assoc, Nat.mul_comm q D]
    omega
  · rw [hvt, e, Nat.mul_comm D]
    have h12 : 18446744073709551616 ^ j * (m + 1) ≤ 18446744073709551616 ^ j * D := Nat.mul_le_mul_left _ hlt
    rw [Nat.mul_add, Nat.mul_one] at h12
    omega
end
theorem dm_done {X Y g L N : Nat} {R Q : List Nat} (h : Dm (X * 2 ^ g) (Y * 2 ^ g) L N N R Q) : val 18446744073709551616 Q = X / Y ∧ val 18446744073709551616 R / 2 ^ g = X % Y := by
  obtain ⟨_, _, _, _, _, h6, h7⟩ := h
  rw [Nat.sub_self, Nat.pow_zero, Nat.mul_one] at h7
  have hp : 0 < 2 ^ g := Nat.pow_pos (by decide)
  have hd : val 18446744073709551616 Q = X * 2 ^ g / (Y * 2 ^ g) := by
    rw [← h6, Nat.add_mul_div_right _ _ (by omega), Nat.div_eq_of_lt h7, Nat.zero_add]
  have hm : val 18446744073709551616 R = X * 2 ^ g % (Y * 2 ^ g) := by
    rw [← h6, Nat.add_mul_mod_self_right, Nat.mod_eq_of_lt h7]
  rw [Nat.mul_div_mul_right _ _ hp] at hd
  rw [Nat.mul_mod_mul_right] at hm
  exact ⟨hd, by rw [hm, Nat.mul_div_cancel _ hp]⟩
/-- a divisor, raised till its highest bit is set -/
theorem dv_top {ys s : List Nat} {g : Nat} (hy : Low 18446744073709551616 ys) (hs : Low 18446744073709551616 s) (h0 : 0 < ys.length) (ht : lim ys (ys.length - 1) ≠ 0) (hg : g + nbits (lim ys (ys.length - 1)) = 64) (hsl : ys.length ≤ s.length) (hv : val 18446744073709551616 s = val 18446744073709551616 ys * 2 ^ g) :
    val 18446744073709551616 (s.take ys.length) = val 18446744073709551616 ys * 2 ^ g ∧ 9223372036854775808 ≤ lim (s.take ys.length) (ys.length - 1) ∧ 9223372036854775808 * 18446744073709551616 ^ (ys.length - 1) ≤ val 18446744073709551616 ys * 2 ^ g := by
  obtain ⟨m, hm⟩ : ∃ m, ys.length = m + 1 := ⟨ys.length - 1, by omega⟩
  have hvy : val 18446744073709551616 ys = part 18446744073709551616 ys m + 18446744073709551616 ^ m * lim ys m := by rw [← part_all, hm, part]
  rw [hm] at ht hg hsl ⊢
  simp only [Nat.add_sub_cancel] at *
  obtain ⟨b1, b2, b3⟩ := nbits_bounds ht
  have hpl := part_lt hy (by decide) m
  have e64 : 2 ^ nbits (lim ys m) * 2 ^ g = 18446744073709551616 := by rw [← Nat.pow_add, Nat.add_comm, hg]
  have e63 : 2 ^ (nbits (lim ys m) - 1) * 2 ^ g = 9223372036854775808 := by rw [← Nat.pow_add, show nbits (lim ys m) - 1 + g = 63 by omega]
  generalize 2 ^ (nbits (lim ys m) - 1) = c1 at *
  generalize 2 ^ nbits (lim ys m) = c2 at *
  generalize lim ys m = t at *
  have hup : val 18446744073709551616 s < 18446744073709551616 ^ (m + 1) := by
    rw [hv, hvy, Nat.pow_succ]
    have h5 : 18446744073709551616 ^ m * (c2 * 2 ^ g) = 18446744073709551616 ^ m * 18446744073709551616 := by rw [e64]
    rw [← h5]
    have h1 : 18446744073709551616 ^ m * (t + 1) ≤ 18446744073709551616 ^ m * c2 := Nat.mul_le_mul_left _ b3
    rw [Nat.mul_add, Nat.mul_one] at h1
    rw [← Nat.mul_assoc]
    exact Nat.mul_lt_mul_of_lt_of_le (by omega) (Nat.le_refl _) (Nat.pow_pos (by decide))
  have hlo : 9223372036854775808 * 18446744073709551616 ^ m ≤ val 18446744073709551616 ys * 2 ^ g := by
    rw [← e63, hvy, Nat.mul_right_comm]
    refine Nat.mul_le_mul_right _ ?_
    have h1 : 18446744073709551616 ^ m * c1 ≤ 18446744073709551616 ^ m * t := Nat.mul_le_mul_left _ b2
    rw [Nat.mul_comm c1]
    omega
  have hpt := part_of_lt hup
  refine ⟨by rw [← part_eq_val_take _ _ _ hsl, hpt, hv], ?_, hlo⟩
  rw [lim_take (by omega)]
  rw [← hv, ← hpt, part] at hlo
  have hpl2 := part_lt hs (by decide) m
  have h2 : 18446744073709551616 ^ m * 9223372036854775808 < 18446744073709551616 ^ m * (lim s m + 1) := by
    rw [Nat.mul_add, Nat.mul_one, Nat.mul_comm _ 9223372036854775808]
    omega
  have := Nat.lt_of_mul_lt_mul_left h2
  omega
theorem dv_fits {xs : List Nat} {g L N D : Nat} (hx : Low 18446744073709551616 xs) (hg : g ≤ 63) (hL : 0 < L) (hN : N + L = xs.length + 1) (hD : 9223372036854775808 * 18446744073709551616 ^ (L - 1) ≤ D) : val 18446744073709551616 xs * 2 ^ g < D * 18446744073709551616 ^ N := by
  have h1 := val_lt hx (by decide)
  have h2 : 2 ^ g ≤ 9223372036854775808 := Nat.pow_le_pow_right (n := 2) (by decide) hg
  have e : L - 1 + N = xs.length := by omega
  have h3 : 9223372036854775808 * 18446744073709551616 ^ (L - 1) * 18446744073709551616 ^ N ≤ D * 18446744073709551616 ^ N := Nat.mul_le_mul_right _ hD
  rw [Nat.mul_assoc, ← Nat.pow_add, e] at h3
  refine Nat.lt_of_lt_of_le ?_ h3
  rw [Nat.mul_comm 9223372036854775808]
  exact Nat.mul_lt_mul_of_lt_of_le h1 h2 (by decide)
end Go.Proofs.Ytdcebkhdnhdejaa

/- natdiv's iterator over the digits of a quotient: it eats what is divided. -/
namespace Go.Proofs.Ytdcebkhdnhdejaa
open Go.RowKit Go.Shelf

attribute [local go_sem] Oper.semAt_some

/-- what yield tells, as one bool -/
theorem yield_one {P R : World → Prop} (e : Ending) (V : World) (h : (e = .returned (.bool true) ∧ P V) ∨ (e = .returned (.bool false) ∧ R V)) : ∃ b : Bool, e = .returned (.bool b) ∧ ((b = true ∧ P V) ∨ (b = false ∧ R V)) := by
  rcases h with ⟨rfl, h⟩ | ⟨rfl, h⟩
  · exact ⟨true, rfl, .inl ⟨rfl, h⟩⟩
  · exact ⟨false, rfl, .inr ⟨rfl, h⟩⟩

set_option maxRecDepth 100000 in
set_option maxHeartbeats 4000000 in
theorem digits_st {σ : Type} (n : Nat) (hn : 2 ≤ n) (l Br Bd S L N capR capQ : Nat) (aQ : Option Addr) (dig : σ → Nat) (hL : L ≤ 17592186044416) (hN : N ≤ 17592186044416) (hcap : N + L ≤ capR) (Inv : Nat → World → Prop) (_B : σ → World → Prop) (X : World → Prop) (Z Xz : Code → World → Prop)
    (hcr : ∀ k W, k ≤ N → Inv k W → W.cell? ⟨Br, 0, none⟩ = some (.slice (some ⟨S, 0, none⟩) (N + L) capR) ∧ W.cell? ⟨Bd, 0, none⟩ = some (.slice aQ L capQ))
    (hT : ∀ k W, k < N → Inv k W → X W → Calls Try.prog 174 #[.slice (some ⟨S, N - 1 - k, none⟩) (L + 1) (capR - (N - 1 - k)), .slice aQ L capQ] W fun e W' => ∃ s : σ, e = .returned (.int .u64 (dig s : Int)) ∧
      W'.cell? ⟨Br, 0, none⟩ = some (.slice (some ⟨S, 0, none⟩) (N + L) capR) ∧ W'.cell? ⟨Bd, 0, none⟩ = some (.slice aQ L capQ) ∧
      YieldAt Fence.wide (n - 1) Try.prog l #[.int .i64 ((N - 1 - k : Nat) : Int), .int .u64 (dig s : Int)] W' fun e V => (e = .returned (.bool true) ∧ Inv (k + 1) V ∧ X V) ∨ (e = .returned (.bool false) ∧ ∃ c, Z c V ∧ Xz c V))
    (hD : ∀ k W, k ≤ N → Inv k W → Inv k W.drew) (hXD : ∀ W, X W → X W.drew)
    (W : World) (h0 : Inv 0 W) (hX : X W) :
    CallsIn Fence.wide n Try.prog 173 #[.func (.yield l) #[] #[], .pointer (some ⟨Br, 0, none⟩), .pointer (some ⟨Bd, 0, none⟩)] W fun e V => (∃ v, e = .returned v) ∧ ((Inv N V ∧ X V) ∨ ∃ c, Z c V ∧ Xz c V) := by
  have hmx := follows
  have h1 : 1 ≤ n := by omega
  obtain ⟨h00, h01⟩ := hcr 0 W (Nat.zero_le _) h0
  refine callsIn_of_wp Try.func173 rfl trivial ?_ rfl
  simp only [Try.ntmps173, List.size_toArray, List.length_cons, List.length_nil, Nat.reduceAdd, Nat.reduceSub, Array.replicate_succ, Array.replicate_zero, List.push_toArray, List.append_toArray, List.nil_append, List.cons_append]
  have hst : (N : Int) + (L : Int) - (L : Int) - 1 = (N : Int) - 1 := by omega
  gi_wp2
  clear hst
  gi_loopw [4] (fun i wr => ∃ (k : Nat) (z : Int), k ≤ N ∧ i = .int .i64 z ∧ z + k + 1 = N ∧ Inv k wr ∧ X wr) (fun i _ => (intOf i + 1).toNat)
  case atStart => exact ⟨0, _, Nat.zero_le _, rfl, by omega, h0, hX⟩
  case round =>
    obtain ⟨k, z, hk, rfl, hz, hIk, hXk⟩ := hrel
    clear h00 h01
    by_cases hlt : k < N
    · obtain ⟨hc1, hc2⟩ := hcr k _ hk (hD k wr hk hIk)
      have ht := hT k _ hlt (hD k wr hk hIk) (hXD _ hXk)
      obtain ⟨j, hj⟩ : ∃ j : Nat, j = N - 1 - k := ⟨_, rfl⟩
      rw [← hj] at ht
      obtain rfl : z = (j : Int) := by omega
      have hjl : j < N := by omega
      have HZ : Hid ((j : Int) - 1 + ((k + 1 : Nat) : Int) + 1 = N) := Lib.hid (by omega)
      have i0 : (0 : Int) ≤ (j : Int) + (L : Int) + 1 := by omega
      have i1 : (j : Int) ≤ (j : Int) + (L : Int) + 1 := by omega
      have i2 : (j : Int) + (L : Int) + 1 ≤ (capR : Int) := by omega
      have t1 : ((j : Int) + (L : Int) + 1).toNat = j + L + 1 := by omega
      have t2 : j + L + 1 - j = L + 1 := by omega
      have HT := Lib.hid ht
      clear hj hz ht
      have z1 : IntKind.i64.wrap ((j : Int) + (L : Int)) = (j : Int) + (L : Int) := IntWalk.i64_in _ (by omega)
      have z2 : IntKind.i64.wrap ((j : Int) + (L : Int) + 1) = (j : Int) + (L : Int) + 1 := IntWalk.i64_in _ (by omega)
      gi_wp2
      gi_region_with_o (first
        | (refine ⟨trivial, ?_⟩; gi_at_call 174; (with_reducible refine (callsIn_wide.2 HT.out).mono ?_); rintro e w2 ⟨sg, rfl, hc3, hc4, fn, tmps, assign, body, hy, hR⟩)
        | ((with_reducible refine hR.mono ?_); intro e W3 hp0; obtain ⟨yb, rfl, hpost⟩ := yield_one (P := fun V => Inv (k + 1) V ∧ X V) (R := fun V => ∃ c, Z c V ∧ Xz c V) e W3 hp0; clear hp0))
      all_goals
        rcases hpost with ⟨rfl, hI3, hX3⟩ | ⟨rfl, hZ3⟩
        · gi_wp2
          go_roundw
          case rel => exact ⟨k + 1, _, by omega, rfl, HZ.out, hI3, hX3⟩
          case measure => simp [intOf]
        · gi_wp2
          refine bodyPost_ret (results_none rfl _ _ _) rfl ?_
          exact ⟨⟨_, rfl⟩, .inr hZ3⟩
    · obtain rfl : k = N := by omega
      obtain rfl : z = -1 := by omega
      gi_wp2
      go_end0
      exact ⟨⟨_, rfl⟩, .inl ⟨hIk, hXk⟩⟩
end Go.Proofs.Ytdcebkhdnhdejaa
