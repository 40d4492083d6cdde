/- vernierref01.Div: the document's own division, bit by bit. -/
import Derived.Test.YtppbifijgkcpjaaRefShr
import Derived.Lib.Hide
namespace Go.Proofs.Ytppbifijgkcpjaa
open Go.RowKit Go.Shelf

theorem lim_digs {B : Nat} (hB : 1 < B) (n j : Nat) : lim (digs B n) j = n / B ^ j % B := by
  induction j generalizing n with
  | zero =>
    by_cases hn : n = 0
    · subst hn; rw [digs_zero]; simp [lim]
    · rw [digs_pos hB hn, lim_cons_zero]; simp
  | succ j ih =>
    by_cases hn : n = 0
    · subst hn; rw [digs_zero]; simp [lim]
    · rw [digs_pos hB hn, lim_cons_succ, ih, Nat.div_div_eq_div_mul, Nat.pow_succ, Nat.mul_comm B]
theorem bit_of (A i : Nat) : lim (digs 65536 A) (i / 16) / 2 ^ (i % 16) % 2 = A / 2 ^ i % 2 := by
  rw [lim_digs (by decide)]
  have h1 : 2 ^ i = 65536 ^ (i / 16) * 2 ^ (i % 16) := by
    rw [show 65536 = 2 ^ 16 from rfl, ← Nat.pow_mul, ← Nat.pow_add, Nat.div_add_mod]
  rw [h1, ← Nat.div_div_eq_div_mul]
  generalize A / 65536 ^ (i / 16) = d
  have hs : i % 16 < 16 := Nat.mod_lt _ (by decide)
  generalize i % 16 = s at *
  have h2 : 65536 = 2 ^ s * (2 * 2 ^ (15 - s)) := by
    rw [← Nat.pow_succ', ← Nat.pow_add, show s + (15 - s).succ = 16 by omega]
  rw [h2, Nat.mod_mul_right_div_self, Nat.mod_mul_right_mod]
theorem div_bit {A B i : Nat} (hB : 0 < B) :
    A / 2 ^ i / B = (if B ≤ 2 * (A / 2 ^ (i + 1) % B) + A / 2 ^ i % 2 then 2 * (A / 2 ^ (i + 1) / B) + 1 else 2 * (A / 2 ^ (i + 1) / B)) ∧
    A / 2 ^ i % B = (if B ≤ 2 * (A / 2 ^ (i + 1) % B) + A / 2 ^ i % 2 then 2 * (A / 2 ^ (i + 1) % B) + A / 2 ^ i % 2 - B else 2 * (A / 2 ^ (i + 1) % B) + A / 2 ^ i % 2) := by
  have e : A / 2 ^ (i + 1) = A / 2 ^ i / 2 := by rw [Nat.div_div_eq_div_mul, ← Nat.pow_succ]
  rw [e]
  generalize A / 2 ^ i = d
  have h1 := Nat.div_add_mod d 2
  have h2 := Nat.div_add_mod (d / 2) B
  have h3 := Nat.mod_lt (d / 2) hB
  have h4 := Nat.mod_lt d (show 0 < 2 by decide)
  generalize d / 2 / B = q at *
  generalize d / 2 % B = r at *
  generalize d % 2 = p at *
  have hd : d = B * (2 * q) + (2 * r + p) := by rw [Nat.mul_left_comm]; omega
  split
  · have hd2 : d = B * (2 * q + 1) + (2 * r + p - B) := by rw [Nat.mul_add]; omega
    have hl : 2 * r + p - B < B := by omega
    refine ⟨?_, ?_⟩
    · rw [hd2, Nat.mul_add_div hB, Nat.div_eq_of_lt hl] <;> try rfl
    · rw [hd2, Nat.mul_add_mod, Nat.mod_eq_of_lt hl]
  · have hl : 2 * r + p < B := by omega
    refine ⟨?_, ?_⟩
    · rw [hd, Nat.mul_add_div hB, Nat.div_eq_of_lt hl] <;> try rfl
    · rw [hd, Nat.mul_add_mod, Nat.mod_eq_of_lt hl]
theorem nbits16 {A k : Nat} (h : A < 65536 ^ k) : nbits A ≤ 16 * k := nbits_le (by rwa [show 65536 = 2 ^ 16 from rfl, ← Nat.pow_mul] at h)
theorem RN.re {w : World} {v : Value} {N k k' : Nat} (h : RN w v N k) (hk : N < 65536 ^ k') : RN w v N k' := ⟨h.1, hk⟩
section
variable {va vb : Value} {M N i j k : Nat} {w : World}
theorem rshl1 (hA : RN w va M i) (hi : i ≤ 4398046511103) (hk : 2 * M < 65536 ^ k) :
    Calls Try.prog 33 #[va, .int .i64 1] w fun e W' => ∃ v, e = .returned v ∧ RN W' v (2 * M) k ∧ Below w.heap.size w W' :=
  (rshl_num (m := 1) hA hi (by decide)).mono fun e W' ⟨v, he, hr, hb⟩ => ⟨v, he, RN.re (by rw [Nat.mul_comm]; exact hr) hk, hb⟩
theorem raddk (hA : RN w va M i) (hB : RN w vb N j) (hi : i ≤ 4398046511104) (hj : j ≤ 4398046511104) (hk : M + N < 65536 ^ k) :
    Calls Try.prog 18 #[va, vb] w fun e W' => ∃ v, e = .returned v ∧ RN W' v (M + N) k ∧ Below w.heap.size w W' :=
  (radd_num hA hB hi hj).mono fun e W' ⟨v, he, hr, hb⟩ => ⟨v, he, hr.re hk, hb⟩
theorem rsubk (hA : RN w va M i) (hB : RN w vb N j) (hi : i ≤ 4398046511104) (hj : j ≤ 4398046511104) (hle : N ≤ M) (hk : M - N < 65536 ^ k) :
    Calls Try.prog 20 #[va, vb] w fun e W' => ∃ v, e = .returned v ∧ RN W' v (M - N) k ∧ Below w.heap.size w W' :=
  (rsub_num hA hB hi hj).mono fun e W' ⟨v, he, hr, hb⟩ => ⟨v, he, RN.re (by rw [← dist_ge hle]; exact hr) hk, hb⟩
theorem rcmpc {c : Int} (hA : RN w va M i) (hB : RN w vb N j) (hi : i ≤ 4398046511104) (hj : j ≤ 4398046511104) (h : cmpN M N = c) :
    Calls Try.prog 24 #[va, vb] w fun e W' => e = .returned (.int .i64 c) ∧ Below w.heap.size w W' := by
  subst h
  exact rcmp_num hA hB hi hj
theorem rcut1 (W : World) (p : Nat) (h : p < 65536) :
    Calls Try.prog 51 #[.slice (some ⟨W.heap.size, 0, none⟩) 1 1] (W.alloc (.cells #[.int .i64 (p : Int)] 3)) fun e W' => ∃ v, e = .returned v ∧ RN W' v p 1 ∧ Below (W.alloc (.cells #[.int .i64 (p : Int)] 3)).heap.size (W.alloc (.cells #[.int .i64 (p : Int)] 3)) W' := by
  have hI := (Row.new W .i64 3 [p]).iat 1 (by simp)
  refine (cut_calls W.heap.size _ [p] (by simp) _ hI).mono ?_
  rintro e W' ⟨v, he, hv, rfl⟩
  have hl : Low 65536 [p] := by intro x hx; simp at hx; omega
  rw [cutz_eq_digs (by decide) hl] at hv
  have e1 : val 65536 [p] = p := by simp [val]
  rw [e1] at hv
  exact ⟨v, he, ⟨⟨W.heap.size, by simp, hv⟩, by simpa using h⟩, Below.refl _ _⟩
end
set_option maxRecDepth 100000 in
set_option maxHeartbeats 8000000 in
theorem rdiv_num {va vb : Value} {A Y j : Nat} {w : World} (hA : RN w va A 60) (hY : RN w vb Y j) (hj : j ≤ 4398046511103) (hY0 : 0 < Y) :
    Calls Try.prog 36 #[va, vb] w fun e W' => ∃ q r, e = .returned (.tuple #[q, r]) ∧ RN W' q (A / Y) 61 ∧ RN W' r (A % Y) 61 ∧ Below w.heap.size w W' := by
  have hA61 : 4 * A + 4 < 65536 ^ 61 := by
    have h1 := hA.2
    have h2 : 65536 ^ 61 = 65536 ^ 60 * 65536 := Nat.pow_succ _ _
    have h3 : 1 ≤ 65536 ^ 60 := Nat.pow_pos (by decide)
    rw [h2]
    generalize 65536 ^ 60 = P at *
    omega
  have HA61 := Lib.hid hA61
  have hbits := rbits_num hA (by omega)
  have hnb : nbits A ≤ 960 := nbits16 hA.2
  have hstart : Hid (A / 2 ^ nbits A = 0) := Lib.hid (Nat.div_eq_of_lt (nbits_lt A))
  have hlenb : ∀ i, i < nbits A → i / 16 < (digs 65536 A).length := fun i hi => by
    have hA0 : A ≠ 0 := by intro h; subst h; simp [nbits_zero] at hi
    have hb := nbits_bounds hA0
    have h1 : A < 65536 ^ (digs 65536 A).length := by
      have := val_lt (digs_low (B := 65536) (by decide) A) (by decide)
      rwa [val_digs (by decide)] at this
    rw [show 65536 = 2 ^ 16 from rfl, ← Nat.pow_mul] at h1
    have h2 : 2 ^ (nbits A - 1) < 2 ^ (16 * (digs 65536 A).length) := Nat.lt_of_le_of_lt hb.2.1 h1
    have h3 := (Nat.pow_lt_pow_iff_right (show 1 < 2 by decide)).1 h2
    omega
  have HLB := Lib.hid hlenb
  have hA' := hA
  obtain ⟨⟨S, hS, hat⟩, _⟩ := hA'
  have hlowA := digs_low (B := 65536) (by decide) A
  obtain ⟨xa, xc, rfl, hxc, hxs⟩ := hat.slice
  have HXS := Lib.hid hxs
  have HAT := Lib.hid hat
  have HDL := Lib.hid (rfl : (digs 65536 A).length = (digs 65536 A).length)
  clear hlenb hxs hat hA61 hxc
  have hsz0 : 0 < w.heap.size := Nat.lt_of_le_of_lt (Nat.zero_le _) hS
  obtain ⟨ya, yc, rfl, hyc⟩ := hY.slice
  clear hyc
  obtain ⟨nx, hnx⟩ : ∃ nx, nx = nbits A := ⟨_, rfl⟩
  rw [← hnx] at hbits hnb hstart
  have HNX := Lib.hid hnx
  clear hnx
  go_enter Try.func36, Try.ntmps36
  go_wp2_with fail
  refine hbits.mono ?_
  rintro e w0 ⟨rfl, hb0⟩
  clear hbits
  go_wp2
  go_loopw [6, 7, 8] (fun q r i wr => ∃ (k : Nat) (z : Int), i = .int .i64 z ∧ z + 1 = k ∧ k ≤ nx ∧ RN wr q (A / 2 ^ k / Y) 61 ∧ RN wr r (A / 2 ^ k % Y) 61 ∧ Below w.heap.size w wr) (fun _ _ i _ => (intOf i + 1).toNat)
  case atStart =>
    have hz0 : 0 < w0.heap.size := Nat.lt_of_lt_of_le hsz0 hb0.size
    have hn0 : RN w0 (.slice none 0 0) 0 61 := ⟨⟨0, hz0, by rw [digs_zero]; exact .inl ⟨⟨_, _, rfl⟩, rfl⟩⟩, Nat.pow_pos (by decide)⟩
    exact ⟨nx, _, rfl, by omega, Nat.le_refl _, by rw [hstart.out, Nat.zero_div]; exact hn0, by rw [hstart.out, Nat.zero_mod]; exact hn0, hb0⟩
  case round =>
    obtain ⟨k, z, rfl, hz, hk, rq, rr, hB⟩ := hrel
    by_cases hk0 : k = 0
    · subst hk0
      obtain rfl : z = -1 := by omega
      rw [Nat.pow_zero, Nat.div_one] at rq rr
      go_wp2
      go_ret2
      exact ⟨_, _, rfl, rq, rr, hB⟩
    · obtain ⟨i', hi'⟩ : ∃ i', k = i' + 1 := ⟨k - 1, by omega⟩
      subst hi'
      obtain rfl : z = (i' : Int) := by omega
      have hil := HLB.out i' (by rw [← HNX.out]; omega)
      obtain ⟨off, rfl⟩ := HXS.out (by omega)
      have hcell : wr.cell? ⟨S, off + i' / 16, none⟩ = some (.int .i64 (lim (digs 65536 A) (i' / 16) : Int)) := (hB.cell (p := ⟨S, off + i' / 16, none⟩) hS).trans (HAT.out.cell hil)
      have hDl := lim_lt hlowA (by decide) (i' / 16)
      have hbit := bit_of A i'
      have hdb := div_bit (A := A) (i := i') hY0
      obtain ⟨g, hg⟩ : ∃ g, g = i' / 16 := ⟨_, rfl⟩
      obtain ⟨s, hs⟩ : ∃ s, s = i' % 16 := ⟨_, rfl⟩
      have hgi : (i' : Int) / 16 = (g : Int) := by omega
      have hsi : (i' : Int) % 16 = (s : Int) := by omega
      have hs16 : s < 16 := by omega
      rw [← hg] at hcell hDl hbit hil
      rw [← hs] at hbit
      have hgl : (g : Int) < ((digs 65536 A).length : Int) := by omega
      have hrb := hY.behind hB
      have hA61 := HA61.out
      have hq1 : A / 2 ^ (i' + 1) ≤ A := Nat.div_le_self _ _
      have hq2 : A / 2 ^ (i' + 1) / Y ≤ A := Nat.le_trans (Nat.div_le_self _ _) hq1
      have hr2 : A / 2 ^ (i' + 1) % Y ≤ A := Nat.le_trans (Nat.mod_le _ _) hq1
      obtain ⟨p, hp⟩ : ∃ p, p = A / 2 ^ i' % 2 := ⟨_, rfl⟩
      have hp2 : p < 2 := by rw [hp]; exact Nat.mod_lt _ (by decide)
      rw [← hp] at hdb hbit
      obtain ⟨Qn, hQn⟩ : ∃ Qn, Qn = A / 2 ^ (i' + 1) / Y := ⟨_, rfl⟩
      obtain ⟨Rn, hRn⟩ : ∃ Rn, Rn = A / 2 ^ (i' + 1) % Y := ⟨_, rfl⟩
      rw [← hQn] at hdb hq2 rq
      rw [← hRn] at hdb hr2 rr
      generalize lim (digs 65536 A) g = D at *
      obtain ⟨L, hL⟩ : ∃ L, L = (digs 65536 A).length := ⟨_, rfl⟩
      have rb := hrb
      have HBIT := Lib.hid hbit
      have HP : Hid (p = A / 2 ^ i' % 2) := Lib.hid hp
      clear hg hs hp hQn hRn hil hrb hbit hL
      have hK1 : 2 * Rn < 65536 ^ 61 := by omega
      have hK2 : 2 * Rn + p < 65536 ^ 61 := by omega
      have hK3 : 2 * Qn < 65536 ^ 61 := by omega
      have hK4 : 2 * Rn + p - Y < 65536 ^ 61 := by omega
      have hK5 : 2 * Qn + 1 < 65536 ^ 61 := by omega
      have HK1 := Lib.hid hK1
      have HK2 := Lib.hid hK2
      have HK3 := Lib.hid hK3
      have HK4 := Lib.hid hK4
      have HK5 := Lib.hid hK5
      have HDB := Lib.hid hdb
      clear hK1 hK2 hK3 hK4 hK5 hdb hA61 hq1 hq2 hr2
      go_wp2
      go_loop [9, 10] (fun b t => ∃ u X : Nat, u ≤ s ∧ t = .int .i64 u ∧ Hid (X = D / 2 ^ u) ∧ X < 65536 ∧ b = .int .i64 X) (fun _ t => s - (intOf t).toNat)
      case atStart => exact ⟨0, D, Nat.zero_le _, rfl, Lib.hid (by simp), hDl, rfl⟩
      case round =>
        obtain ⟨u, X, hu, rfl, hX, hXl, rfl⟩ := hrel
        by_cases hus : u < s
        · have hX2 : Hid (X / 2 = D / 2 ^ (u + 1)) := Lib.hid (by rw [hX.out, Nat.div_div_eq_div_mul, ← Nat.pow_succ])
          have hXl2 : X / 2 < 65536 := by omega
          go_wp2
          go_round
          case rel => exact ⟨u + 1, X / 2, by omega, by simp, hX2, hXl2, by simp⟩
          case measure => simp [intOf]; omega
        · obtain rfl : u = s := by omega
          have hXp : (X : Int) % 2 = (p : Int) := by
            have := HBIT.out
            rw [← hX.out] at this
            omega
          by_cases hge : Y ≤ 2 * Rn + p
          · have hdd := HDB.out
            rw [if_pos hge, if_pos hge] at hdd
            have EQ := Lib.hid hdd.1.symm
            have ER := Lib.hid hdd.2.symm
            obtain ⟨c, HC, hc0⟩ : ∃ c, Hid (cmpN (2 * Rn + p) Y = c) ∧ 0 ≤ c := by
              refine ⟨_, Lib.hid rfl, ?_⟩
              unfold cmpN
              rw [if_neg (by omega)]
              split <;> omega
            have HGE := Lib.hid hge
            clear hdd hge hX
            go_wp2_with fail
            refine (rshl1 (k := 61) rr (by omega) HK1.out).mono ?_
            rintro e w1 ⟨v1, rfl, r1, b1⟩
            have rb := rb.behind b1
            have rq := rq.behind b1
            have B1 := below_both hB b1
            clear b1
            go_wp2_with fail
            have b2 := (Below.refl (w1).heap.size (w1)).alloc (Nat.le_refl _) (.cells #[.int .i64 (p : Int)] 3)
            have rb := rb.behind b2
            have rq := rq.behind b2
            have r1 := r1.behind b2
            have B2 := below_both B1 b2
            clear b2
            refine (rcut1 w1 p (by omega)).mono ?_
            rintro e w3 ⟨v2, rfl, r2, b3⟩
            have rb := rb.behind b3
            have rq := rq.behind b3
            have r1 := r1.behind b3
            have B3 := below_both B2 b3
            clear b3
            go_wp2_with fail
            refine (raddk (k := 61) r1 r2 (by omega) (by omega) HK2.out).mono ?_
            rintro e w4 ⟨v3, rfl, r3, b4⟩
            have rb := rb.behind b4
            have rq := rq.behind b4
            have B4 := below_both B3 b4
            clear b4
            go_wp2_with fail
            refine (rshl1 (k := 61) rq (by omega) HK3.out).mono ?_
            rintro e w5 ⟨v4, rfl, r4, b5⟩
            have rb := rb.behind b5
            have r3 := r3.behind b5
            have B5 := below_both B4 b5
            clear b5
            go_wp2_with fail
            refine (rcmpc r3 rb (by omega) (by omega) HC.out).mono ?_
            rintro e w6 ⟨rfl, b6⟩
            have rb := rb.behind b6
            have r3 := r3.behind b6
            have r4 := r4.behind b6
            have B6 := below_both B5 b6
            clear b6
            go_wp2_with fail
            refine (rsubk (k := 61) r3 rb (by omega) (by omega) HGE.out HK4.out).mono ?_
            rintro e w7 ⟨v6, rfl, r6, b7⟩
            have r4 := r4.behind b7
            have B7 := below_both B6 b7
            clear b7
            go_wp2_with fail
            have b8 := (Below.refl (w7).heap.size (w7)).alloc (Nat.le_refl _) (.cells #[.int .i64 ((1 : Nat) : Int)] 3)
            have r4 := r4.behind b8
            have r6 := r6.behind b8
            have B8 := below_both B7 b8
            clear b8
            have h1 := rn_one w7 1 (by decide) (by decide)
            refine (raddk (k := 61) r4 h1 (by omega) (by omega) HK5.out).mono ?_
            rintro e w9 ⟨v7, rfl, r7, b9⟩
            have r6 := r6.behind b9
            have B9 := below_both B8 b9
            clear b9
            go_wp2
            go_roundw
            case rel => exact ⟨i', _, rfl, by omega, by omega, by rw [← EQ.out]; exact r7, by rw [← ER.out]; exact r6, B9⟩
            case measure => simp [intOf]
          · have hdd := HDB.out
            rw [if_neg hge, if_neg hge] at hdd
            have EQ := Lib.hid hdd.1.symm
            have ER := Lib.hid hdd.2.symm
            have HC : Hid (cmpN (2 * Rn + p) Y = -1) := Lib.hid (cmpN_lt (by omega))
            clear hdd hge hX
            go_wp2_with fail
            refine (rshl1 (k := 61) rr (by omega) HK1.out).mono ?_
            rintro e w1 ⟨v1, rfl, r1, b1⟩
            have rb := rb.behind b1
            have rq := rq.behind b1
            have B1 := below_both hB b1
            clear b1
            go_wp2_with fail
            have b2 := (Below.refl (w1).heap.size (w1)).alloc (Nat.le_refl _) (.cells #[.int .i64 (p : Int)] 3)
            have rb := rb.behind b2
            have rq := rq.behind b2
            have r1 := r1.behind b2
            have B2 := below_both B1 b2
            clear b2
            refine (rcut1 w1 p (by omega)).mono ?_
            rintro e w3 ⟨v2, rfl, r2, b3⟩
            have rb := rb.behind b3
            have rq := rq.behind b3
            have r1 := r1.behind b3
            have B3 := below_both B2 b3
            clear b3
            go_wp2_with fail
            refine (raddk (k := 61) r1 r2 (by omega) (by omega) HK2.out).mono ?_
            rintro e w4 ⟨v3, rfl, r3, b4⟩
            have rb := rb.behind b4
            have rq := rq.behind b4
            have B4 := below_both B3 b4
            clear b4
            go_wp2_with fail
            refine (rshl1 (k := 61) rq (by omega) HK3.out).mono ?_
            rintro e w5 ⟨v4, rfl, r4, b5⟩
            have rb := rb.behind b5
            have r3 := r3.behind b5
            have B5 := below_both B4 b5
            clear b5
            go_wp2_with fail
            refine (rcmpc r3 rb (by omega) (by omega) HC.out).mono ?_
            rintro e w6 ⟨rfl, b6⟩
            have r3 := r3.behind b6
            have r4 := r4.behind b6
            have B6 := below_both B5 b6
            clear b6
            go_wp2
            go_roundw
            case rel => exact ⟨i', _, rfl, by omega, by omega, by rw [← EQ.out]; exact r4, by rw [← ER.out]; exact r3, B6⟩
            case measure => simp [intOf]
end Go.Proofs.Ytppbifijgkcpjaa
