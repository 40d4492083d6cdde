/- vernierlaw04's told: a number as it is told, by the document's own digits. -/
import Derived.Test.YthipbonhkcjcfaaDoorDyLaw
import Derived.Deep.RegionHeld3
namespace Go.Proofs.YthipbonhkcjcfaaDoor
open Go.RowKit Go.Shelf
attribute [local go_sem ↓] Go.wp_at_zero Go.wp_at_succ

/-- the number that a list of digits in memory is -/
def numI (W : World) : Value → Nat
  | .slice (some a) len _ => val 65536 ((List.range len).map fun j => match W.cell? ⟨a.block, a.off + j, none⟩ with | some (.int _ z) => z.toNat | _ => 0)
  | _ => 0
theorem IAt.numI {S : Nat} {W : World} {v : Value} {xs : List Nat} (h : IAt S W v xs) : numI W v = val 65536 xs := by
  rcases h with ⟨⟨a, c, rfl⟩, rfl⟩ | ⟨off, cap, rfl, _, hc⟩
  · cases a <;> rfl
  · show val _ ((List.range xs.length).map _) = _
    congr 1
    apply List.ext_getElem (by simp)
    intro j h1 h2
    simp [hc j h2, lim, h2]
theorem RN.numI {w : World} {v : Value} {N k : Nat} (h : RN w v N k) : numI w v = N := by
  obtain ⟨⟨S, _, h1⟩, _⟩ := h
  rw [h1.numI, val_digs (by decide)]
theorem RN.low {w : World} {v : Value} {N N' k : Nat} (h : IArg w v (digs 65536 N')) (hN : N < 65536 ^ k) (hl : N' ≤ N) : RN w v N' k := ⟨h, Nat.lt_of_le_of_lt hl hN⟩
/-- the lowest digit of a number that is not 0, and those behind it -/
theorem rn_open {w : World} {v : Value} {N k : Nat} (h : RN w v N k) (h0 : N ≠ 0) : ∃ b off l cap, v = .slice (some ⟨b, off, none⟩) (l + 1) (cap + 1) ∧ l ≤ cap ∧ l + 1 ≤ k ∧ b < w.heap.size ∧ w.cell? ⟨b, off, none⟩ = some (.int .i64 ((N % 65536 : Nat) : Int)) ∧
    (N % 65536 = 0 → 1 ≤ l ∧ RN w (.slice (some ⟨b, off + 1, none⟩) l cap) (N / 65536) k) := by
  have hlen := h.len
  obtain ⟨⟨b, hb, hI⟩, hlt⟩ := h
  have e := digs_pos (B := 65536) (by decide) h0
  obtain ⟨a, cap, rfl, hcap, hoff⟩ := hI.slice
  have hl : (digs 65536 N).length = (digs 65536 (N / 65536)).length + 1 := by rw [e]; rfl
  obtain ⟨off, rfl⟩ := hoff (by omega)
  have hc := hI.cell (j := 0) (by omega)
  rw [Nat.add_zero, e, lim_cons_zero] at hc
  refine ⟨b, off, (digs 65536 (N / 65536)).length, cap - 1, by rw [hl, show cap - 1 + 1 = cap by omega], by omega, by omega, hb, hc, fun hz => ?_⟩
  have h1 : 1 ≤ (digs 65536 (N / 65536)).length := by
    rw [digs_pos (by decide) (show N / 65536 ≠ 0 by omega)]
    simp
  have hd := hI.drop (q := 1) (by omega)
  have hdr : (digs 65536 N).drop 1 = digs 65536 (N / 65536) := by rw [e]; rfl
  rw [hdr, hl, Nat.add_sub_cancel] at hd
  exact ⟨h1, ⟨b, hb, hd⟩, Nat.lt_of_le_of_lt (Nat.div_le_self _ _) hlt⟩
/-- what is left of N behind t zeros, told at exponent z -/
def Lft (N : Nat) (E : Int) (good : Prop) (t N' : Nat) (z : Int) : Prop := N = N' * 2 ^ t ∧ N' ≠ 0 ∧ (good → z = E + t)
theorem Lft.t_lt {N : Nat} {E : Int} {good : Prop} {t N' k : Nat} {z : Int} (h : Lft N E good t N' z) (hk : N < 65536 ^ k) : t < 16 * k := by
  obtain ⟨h1, h2, _⟩ := h
  rw [show 65536 = 2 ^ 16 from rfl, ← Nat.pow_mul, h1] at hk
  have h3 : 1 * 2 ^ t ≤ N' * 2 ^ t := Nat.mul_le_mul_right _ (by omega)
  rw [Nat.one_mul] at h3
  exact (Nat.pow_lt_pow_iff_right (a := 2) (by decide)).1 (Nat.lt_of_le_of_lt h3 hk)
def LP (w : World) (s : Bool) (N : Nat) (E : Int) (good : Prop) (e : Ending) (W' : World) : Prop :=
  ∃ a m c s' n x q, e = .returned (.tuple #[.agg #[.bool s', .slice a m c, .int .i64 x], .bool q]) ∧ New w.heap.size W' (.slice a m c) (digs 18446744073709551616 n) ∧ Below w.heap.size w W' ∧ n ≤ N ∧ (good → tld s N E = ⟨s', n, x⟩ ∧ q = fits ⟨s', n, x⟩)

set_option maxRecDepth 100000 in
set_option maxHeartbeats 2000000 in
theorem ltold_pos {s : Bool} {v : Value} {N k : Nat} {E : Int} {w : World} (good : Prop) (hg : good → -1048576 ≤ E ∧ E ≤ 1048576) (hA : RN w v N k) (h0 : N ≠ 0) (hk : k ≤ 4398046511103) (hE1 : -9223372036854775808 ≤ E) (hE2 : E < 9223372036854775808) :
    Calls Tryd.prog 17 #[.bool s, v, .int .i64 E] w (LP w s N E good) := by
  have hb := dbox1 w #[.bool false, .slice none 0 0, .int .i64 0] 24 _ rfl
  have HG := Lib.hid hg
  have hNk := Lib.hid hA.2
  have hst : Hid (Lft N E good 0 N E) := Lib.hid ⟨by simp, h0, fun _ => by simp⟩
  obtain ⟨b, off, l, cap, rfl, hlc, hlk, hbw, hcell, -⟩ := rn_open hA h0
  have HN0 := Lib.hid h0
  have hl0 : ((l : Int) + 1 == 0) = false := beq_eq_false_iff_ne.2 (by omega)
  clear hg h0 hcell
  go_enter Tryd.func17, Tryd.ntmps17
  go_wp2_with fail
  obtain ⟨hB, R, hsz⟩ := hb
  generalize (w.alloc (.cells #[.bool false, .slice none 0 0, .int .i64 0] 24)) = W0 at hB R hsz ⊢
  have hA := hA.behind hB
  go_loopw [1, 2] (fun n x wr => ∃ (t N' : Nat) (z : Int), x = .int .i64 z ∧ Hid (Lft N E good t N' z) ∧ RN wr n N' k ∧ Cs wr w.heap.size #[.bool false, .slice none 0 0, .int .i64 0] 24 ∧ Below w.heap.size w wr) (fun n _ wr => numI wr n)
  case atStart => exact ⟨0, N, E, rfl, hst, hA, R, hB⟩
  case round =>
    obtain ⟨t, N', z, rfl, hL, hr, R', hB'⟩ := hrel
    have hm := hr.numI
    obtain ⟨b, off, l, cap, rfl, hlc, hlk, hbw, hc, htl⟩ := rn_open hr hL.out.2.1
    by_cases hz : N' % 65536 = 0
    · obtain ⟨hl1, ht⟩ := htl hz
      have hc0 : wr.cell? ⟨b, off, none⟩ = some (.int .i64 0) := by rw [hc, hz]; rfl
      clear hc
      have HZ := Lib.hid hz
      have hm2 := ht.numI
      have HM := Lib.hid hm
      have HM2 := Lib.hid hm2
      clear hz htl hm hm2
      go_wp2
      go_roundw
      case rel => exact ⟨t + 16, N' / 65536, _, rfl, Lib.hid (by
        obtain ⟨h1, h2, h3⟩ := hL.out
        have h4 := HZ.out
        refine ⟨by rw [Nat.pow_add, Nat.mul_comm (2 ^ t), ← Nat.mul_assoc, show 2 ^ 16 = 65536 from rfl, show N' / 65536 * 65536 = N' by omega]; exact h1, by omega, fun hg => ?_⟩
        have h5 := h3 hg
        have h6 := HG.out hg
        have h7 := hL.out.t_lt hNk.out
        rw [IntWalk.wrap64_in _ (by omega)]
        omega), ht, R', hB'⟩
      case measure =>
        show numI wr _ < numI wr _
        rw [HM.out, HM2.out]
        have h2 := hL.out.2.1
        omega
    · have hN' := hL.out.2.1
      generalize hD : N' % 65536 = D at hc hz
      have hd : ((D : Int) == 0) = false := beq_eq_false_iff_ne.2 (by omega)
      obtain ⟨wo, rfl⟩ : ∃ wo : World, wo = wr := ⟨_, rfl⟩
      clear htl hm hD hz hN'
      go_wp2_with fail
      go_loopw [1, 2] (fun n x wr => ∃ (t N' : Nat) (z : Int), x = .int .i64 z ∧ Hid (Lft N E good t N' z) ∧ RN wr n N' k ∧ Cs wr w.heap.size #[.bool false, .slice none 0 0, .int .i64 0] 24 ∧ Below w.heap.size w wr) (fun n _ wr => numI wr n)
      case atStart => exact ⟨t, N', z, rfl, hL, hr, R', hB'⟩
      case round =>
        obtain ⟨t, N', z, rfl, hL, hr, R', hB'⟩ := hrel
        have hm := hr.numI
        obtain ⟨b, off, l, cap, rfl, hlc, hlk, hbw, hc, -⟩ := rn_open hr hL.out.2.1
        have hN' := hL.out.2.1
        by_cases hz : N' % 2 = 0
        · have hz2 : N' % 65536 % 2 = 0 := by omega
          generalize hD : N' % 65536 = D at hc hz2
          have hd1 : ((D : Int) % 2 == 0) = true := by simp; omega
          have HZ := Lib.hid hz
          have HM := Lib.hid hm
          clear hz hm hD hN' hz2
          go_wp2_with fail
          refine (rshr_num (m := 1) hr (by omega) (by omega)).mono ?_
          rintro e w1 ⟨v1, rfl, hr1, b1⟩
          have hm1 := Lib.hid hr1.numI
          have R1 := R'.behind b1
          have hB1 := hB'.trans (b1.mono hB'.size)
          go_wp2
          go_roundw
          case rel => exact ⟨t + 1, N' / 2 ^ 1, _, rfl, Lib.hid (by
            obtain ⟨h1, h2, h3⟩ := hL.out
            have h4 := HZ.out
            refine ⟨by rw [Nat.pow_add, Nat.mul_comm (2 ^ t), ← Nat.mul_assoc, show N' / 2 ^ 1 * 2 ^ 1 = N' by omega]; exact h1, by omega, fun hg => ?_⟩
            have h5 := h3 hg
            have h6 := HG.out hg
            have h7 := hL.out.t_lt hNk.out
            rw [IntWalk.wrap64_in _ (by omega)]
            omega), hr1, R1, hB1⟩
          case measure =>
            show numI w1 _ < numI wr _
            rw [HM.out, hm1.out]
            have h2 := hL.out.2.1
            omega
        · have hz2 : N' % 65536 % 2 = 1 := by omega
          generalize hD : N' % 65536 = D at hc hz2
          have hd1 : ((D : Int) % 2 == 0) = false := by simp; omega
          have HZ := Lib.hid hz
          clear hz hm hD hN' hz2
          go_wp2_with fail
          refine (limbs_num hr (by omega)).mono ?_
          rintro e w1 ⟨v1, rfl, nt, b1⟩
          have R1 := R'.behind b1
          have hB1 := hB'.trans (b1.mono hB'.size)
          obtain ⟨ta, tc, rfl, -⟩ := nt.slice
          have hbx := dbox1 w1 #[.bool s, .slice ta (digs 18446744073709551616 N').length tc, .int .i64 z] 24 _ rfl
          generalize hq : (digs 18446744073709551616 N').length = q at hbx nt ⊢
          have HQ := Lib.hid hq
          clear hq
          go_wp2_with fail
          generalize (w1.alloc (.cells #[.bool s, .slice ta q tc, .int .i64 z] 24)) = W2 at hbx ⊢
          obtain ⟨b2, G, z2⟩ := hbx
          have hR1 := R1.lt
          have R2 := R1.behind b2
          have nt := nt.behind b2
          have B2 := below_both hB1 b2
          generalize w1.heap.size = g at G z2 hR1 ⊢
          have bd := (Below.refl W2.heap.size W2).drew
          have G := G.behind bd
          have R2 := R2.behind bd
          have nt := nt.behind bd
          have B3 := below_both B2 bd
          clear bd
          have c0 := G.cell (i := 0) rfl
          have c1 := G.cell (i := 1) rfl
          have c2 := G.cell (i := 2) rfl
          have r0 := R2.cell (i := 0) rfl
          have r1 := R2.cell (i := 1) rfl
          have r2 := R2.cell (i := 2) rfl
          go_region_held3 (fun w' => w'.cell? ⟨g, 0, none⟩ = some (.bool s) ∧ w'.cell? ⟨g, 1, none⟩ = some (.slice ta q tc) ∧ w'.cell? ⟨g, 2, none⟩ = some (.int .i64 z)) (first | exact ⟨G.cell rfl, G.cell rfl, G.cell rfl⟩ | exact ⟨(((G.put (by simp <;> omega) _).put (by simp <;> omega) _).put (by simp <;> omega) _).cell rfl, (((G.put (by simp <;> omega) _).put (by simp <;> omega) _).put (by simp <;> omega) _).cell rfl, (((G.put (by simp <;> omega) _).put (by simp <;> omega) _).put (by simp <;> omega) _).cell rfl⟩ | (refine ⟨?_, ?_, ?_⟩ <;> go_keep))
            (first
              | (go_at_call 12; (with_reducible refine (lmay _ _ _ _ _ _).mono ?_); rintro e w4 ⟨rfl, b4⟩; have G := G.behind b4; have R2 := R2.behind b4; have nt := nt.behind b4; have B4 := below_both B3 b4; clear b4; have r0 := R2.cell (i := 0) rfl; have r1 := R2.cell (i := 1) rfl; have r2 := R2.cell (i := 2) rfl; have f0 := R2.f 0; have f1 := R2.f 1; have f2 := R2.f 2))
          have hw := R'.lt
          have hfin : Hid (N' ≤ N ∧ (good → tld s N E = ⟨s, N', z⟩ ∧ mayB q z = fits ⟨s, N', z⟩)) := Lib.hid (by
            obtain ⟨h1, h2, h3⟩ := hL.out
            have h4 := HZ.out
            refine ⟨?_, fun hg => ⟨?_, ?_⟩⟩
            · have : N' * 1 ≤ N' * 2 ^ t := Nat.mul_le_mul_left _ (Nat.pow_pos (by decide))
              omega
            · rw [h1, tld_shift, tld_odd s (by omega), h3 hg]
            · rw [← HQ.out]; rfl)
          go_wp2
          exact bodyPost_ret (v := .tuple #[.agg #[.bool s, .slice ta q tc, .int .i64 z], .bool (mayB q z)]) (by simp [results, Tryd.results17, go_sem, r0, r1, r2]) rfl
            ⟨_, _, _, _, N', _, _, rfl, (((nt.put hw _).put hw _).put hw _).mono (by omega), set3 B4 (Nat.le_refl _) _ _ _, hfin.out.1, hfin.out.2⟩
set_option maxRecDepth 100000 in
set_option maxHeartbeats 2000000 in
theorem ltold_zero {s : Bool} {v : Value} {k : Nat} {E : Int} {w : World} (good : Prop) (hA : RN w v 0 k) :
    Calls Tryd.prog 17 #[.bool s, v, .int .i64 E] w (LP w s 0 E good) := by
  have hb := dbox1 w #[.bool false, .slice none 0 0, .int .i64 0] 24 _ rfl
  obtain ⟨a, cap, rfl, hcap⟩ := hA.slice
  rw [digs_zero] at hcap ⊢
  go_enter Tryd.func17, Tryd.ntmps17
  go_wp2_with fail
  obtain ⟨hB, R, hsz⟩ := hb
  generalize (w.alloc (.cells #[.bool false, .slice none 0 0, .int .i64 0] 24)) = W0 at hB R hsz ⊢
  have r0 := R.cell (i := 0) rfl
  have r1 := R.cell (i := 1) rfl
  have r2 := R.cell (i := 2) rfl
  have f0 := R.f 0
  have f1 := R.f 1
  have f2 := R.f 2
  go_wp2
  exact bodyPost_ret (v := .tuple #[.agg #[.bool false, .slice none 0 0, .int .i64 0], .bool true]) (by simp [results, Tryd.results17, go_sem, r0, r1, r2]) rfl
    ⟨_, _, _, _, 0, _, _, rfl, new_nil (by omega), hB, Nat.le_refl _, fun _ => ⟨tld_zero s E, fits_zero.symm⟩⟩
theorem ltold {s : Bool} {v : Value} {N k : Nat} {E : Int} {w : World} (good : Prop) (hg : good → -1048576 ≤ E ∧ E ≤ 1048576) (hA : RN w v N k) (hk : k ≤ 4398046511103) (hE1 : -9223372036854775808 ≤ E) (hE2 : E < 9223372036854775808) :
    Calls Tryd.prog 17 #[.bool s, v, .int .i64 E] w (LP w s N E good) := by
  by_cases h0 : N = 0
  · subst h0; exact ltold_zero good hA
  · exact ltold_pos good hg hA h0 hk hE1 hE2
end Go.Proofs.YthipbonhkcjcfaaDoor
