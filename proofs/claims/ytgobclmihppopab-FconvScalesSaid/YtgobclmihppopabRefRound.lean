/- vernierref06.Round and what it calls: the document's own rounding. -/
import Derived.Test.YtgobclmihppopabRefDiv
import Derived.Test.YtgobclmihppopabRnd
import Derived.Deep.DeepCutAuto
import Derived.Deep.CutBlock
namespace Go.Proofs.Ytgobclmihppopab
open Go.RowKit Go.Shelf

theorem zero6 (neg : Bool) (w : World) : Calls Try.prog 47 #[.bool neg] w fun e W' => e = .returned (.int .u64 (sgn neg : Int)) ∧ w = W' := by
  go_enter Try.func47, Try.ntmps47
  cases neg
  · go_wp2
    go_ret
    simp [sgn]
  · go_wp2
    go_ret
    simp [sgn]
theorem sgn_le (neg : Bool) : sgn neg ≤ 9223372036854775808 := by unfold sgn; split <;> omega
theorem inf6 (neg : Bool) (w : World) : Calls Try.prog 29 #[.bool neg] w fun e W' => e = .returned (.int .u64 (infB neg : Int)) ∧ w = W' := by
  have h := zero6 neg w
  have hs := sgn_le neg
  unfold infB
  generalize sgn neg = s at *
  go_enter Try.func29, Try.ntmps29
  go_wp2_with fail
  refine h.mono ?_
  rintro e W' ⟨rfl, rfl⟩
  go_wp2
  go_ret
  simp
set_option maxHeartbeats 4000000 in
theorem big6 (neg : Bool) (mode : Int) (w : World) : Calls Try.prog 65 #[.bool neg, .int .i64 mode] w fun e W' => e = .returned (.tuple #[.int .u64 ((rbig neg mode).1 : Int), .int .i64 ((rbig neg mode).2 : Int)]) ∧ w = W' := by
  have h := inf6 neg w
  have hs := sgn_le neg
  have hI : infB neg = sgn neg + 9218868437227405312 := rfl
  by_cases hm : mode = 2 ∨ mode = 3 ∧ neg = true ∨ mode = 4 ∧ neg = false
  · have e : rbig neg mode = (infB neg - 1, 20) := by unfold rbig; rw [if_pos hm]
    rw [e]
    generalize infB neg = I at *
    have hJ : ((I - 1 : Nat) : Int) = (I : Int) - 1 := by omega
    simp only [hJ]
    go_enter Try.func65, Try.ntmps65
    rcases hm with rfl | ⟨rfl, rfl⟩ | ⟨rfl, rfl⟩
    all_goals
      go_wp2_with fail
      refine h.mono ?_
      rintro e W' ⟨rfl, rfl⟩
      go_wp2
      go_ret2
      simp
      omega
  · have e : rbig neg mode = (infB neg, 20) := by unfold rbig; rw [if_neg hm]
    rw [e]
    generalize infB neg = I at *
    go_enter Try.func65, Try.ntmps65
    have h2 : mode ≠ 2 := by intro h; exact hm (.inl h)
    cases neg
    · have h4 : mode ≠ 4 := by intro h; exact hm (.inr (.inr ⟨h, rfl⟩))
      by_cases h3 : mode = 3
      · subst h3
        go_wp2_with fail
        refine h.mono ?_
        rintro e W' ⟨rfl, rfl⟩
        go_wp2
        go_ret2
        simp
        omega
      · go_wp2_with fail
        refine h.mono ?_
        rintro e W' ⟨rfl, rfl⟩
        go_wp2
        go_ret2
        simp
        omega
    · have h3 : mode ≠ 3 := by intro h; exact hm (.inr (.inl ⟨h, rfl⟩))
      by_cases h4 : mode = 4
      · subst h4
        go_wp2_with fail
        refine h.mono ?_
        rintro e W' ⟨rfl, rfl⟩
        go_wp2
        go_ret2
        simp
        omega
      · go_wp2_with fail
        refine h.mono ?_
        rintro e W' ⟨rfl, rfl⟩
        go_wp2
        go_ret2
        simp
        omega
theorem RN.le {w : World} {v : Value} {N k k' : Nat} (h : RN w v N k) (hk : k ≤ k') : RN w v N k' := h.re (Nat.lt_of_lt_of_le h.2 (Nat.pow_le_pow_right (by decide) hk))
theorem rshift_num {va vb : Value} {M N i j : Nat} {n : Int} {w : World} (hA : RN w va M i) (hB : RN w vb N j) (hi : i ≤ 4398046511103) (hj : j ≤ 4398046511103) (h1 : -65536 ≤ n) (h2 : n ≤ 65536) :
    Calls Try.prog 66 #[va, vb, .int .i64 n] w fun e W' => ∃ x y, e = .returned (.tuple #[x, y]) ∧ RN W' x (upper M n) (i + 4098) ∧ RN W' y (lower N n) (j + 4098) ∧ Below w.heap.size w W' := by
  obtain ⟨ya, yc, rfl, hyc⟩ := hB.slice
  obtain ⟨xa, xc, rfl, hxc⟩ := hA.slice
  clear hyc hxc
  by_cases hn : 0 ≤ n
  · obtain ⟨m, rfl⟩ : ∃ m : Nat, n = m := ⟨n.toNat, by omega⟩
    have hU : upper M (m : Int) = M * 2 ^ m := by unfold upper; rw [pw_nat]
    have hL : lower N (m : Int) = N := by unfold lower; rw [pw_of_le (by omega), Nat.mul_one]
    have hs := rshl_num (m := m) hA hi (by omega)
    rw [hL]
    rw [← hU] at hs
    generalize upper M (m : Int) = U at *
    clear hU hL
    go_enter Try.func66, Try.ntmps66
    go_wp2_with fail
    refine hs.mono ?_
    rintro e w1 ⟨v1, rfl, r1, b1⟩
    replace hB := hB.behind b1
    go_wp2
    go_ret2
    exact ⟨_, _, rfl, r1.le (by omega), hB.le (by omega), b1⟩
  · obtain ⟨m, rfl⟩ : ∃ m : Nat, n = -(m : Int) := ⟨(-n).toNat, by omega⟩
    have hL : lower N (-(m : Int)) = N * 2 ^ m := by unfold lower; rw [Int.neg_neg, pw_nat]
    have hU : upper M (-(m : Int)) = M := by unfold upper; rw [pw_of_le (by omega), Nat.mul_one]
    have hs := rshl_num (m := m) hB hj (by omega)
    rw [hU]
    rw [← hL] at hs
    generalize lower N (-(m : Int)) = U at *
    clear hU hL
    go_enter Try.func66, Try.ntmps66
    go_wp2_with fail
    refine Calls.mono (by simpa using hs) ?_
    rintro e w1 ⟨v1, rfl, r1, b1⟩
    replace hA := hA.behind b1
    go_wp2
    go_ret2
    exact ⟨_, _, rfl, hA.le (by omega), r1.le (by omega), b1⟩
/-- what the loop holds -/
def Rel6 (exp : Int) (num den i j : Nat) (a b c e : Value) (w0 wx : World) : Prop :=
  RN wx a num i ∧ RN wx b den j ∧ c = .int .i64 exp ∧ e = .int .i64 (rfrom num den exp) ∧ 0 < num ∧ 0 < den ∧ -40000 ≤ exp ∧ exp ≤ 40000 ∧ -3000 ≤ rlen num den exp ∧ rlen num den exp ≤ 2000 ∧ Below w0.heap.size w0 wx
def Lp6 (num den i j : Nat) (exp : Int) (e q r d t : Value) (w0 wr : World) : Prop :=
  Below w0.heap.size w0 wr ∧ ((t = .int .i64 0 ∧ q = .int .u64 0 ∧ r = .slice none 0 0 ∧ d = .slice none 0 0 ∧ e = .int .i64 (rfrom num den exp)) ∨
  ∃ (T n : Nat) (E z : Int), T ≤ 2 ∧ t = .int .i64 z ∧ z = (T : Int) + 1 ∧ E = rfrom num den exp + T ∧ e = .int .i64 E ∧ q = .int .u64 (n : Int) ∧ n = qat num den exp E ∧ n < 36028797018963968 ∧ RN wr r (rst num den (exp - E)) (i + 4098) ∧ RN wr d (lower den (exp - E)) (j + 4098) ∧ (1 ≤ T → 9007199254740992 ≤ qat num den exp (rfrom num den exp)) ∧ (2 ≤ T → 9007199254740992 ≤ qat num den exp (rfrom num den exp + 1)))
theorem digs_some (R : Nat) : decide (0 < (digs 65536 R).length) = decide (R ≠ 0) := by
  by_cases h : R = 0
  · subst h; rw [digs_zero]; rfl
  · rw [digs_pos (by decide) h, decide_eq_true h]
    exact decide_eq_true (by simp only [List.length_cons]; omega)
theorem cmpN_dec (a b : Nat) : decide (cmpN a b < 0) = decide (a < b) := by
  unfold cmpN
  by_cases h : a < b
  · rw [if_pos h, decide_eq_true h]; rfl
  · rw [if_neg h, decide_eq_false h]
    split <;> rfl
theorem cmpN_three (a b : Nat) : cmpN a b = -1 ∨ cmpN a b = 0 ∨ cmpN a b = 1 := by
  unfold cmpN
  split
  · exact .inl rfl
  · split
    · exact .inr (.inr rfl)
    · exact .inr (.inl rfl)
/-- what the loop leaves -/
def Ex6 (num den i j : Nat) (exp : Int) (e q r d : Value) (w0 wr : World) : Prop :=
  ∃ (n : Nat) (E : Int), e = .int .i64 E ∧ q = .int .u64 (n : Int) ∧ E = rexp num den exp ∧ n = qat num den exp E ∧ RN wr r (rst num den (exp - E)) (i + 4098) ∧ RN wr d (lower den (exp - E)) (j + 4098) ∧ Below w0.heap.size w0 wr
set_option maxRecDepth 100000 in
set_option maxHeartbeats 8000000 in
theorem rround_num {va vb : Value} {num den i j : Nat} {exp mode : Int} {neg : Bool} {w : World} (hA : RN w va num i) (hB : RN w vb den j) (hn : 0 < num) (hd : 0 < den) (hi : i ≤ 4000) (hj : j ≤ 4000) (hi1 : 1 ≤ i) (hj1 : 1 ≤ j) (he1 : -40000 ≤ exp) (he2 : exp ≤ 40000) :
    Calls Try.prog 35 #[.bool neg, va, vb, .int .i64 exp, .int .i64 mode] w fun e W' => e = .returned (.tuple #[.int .u64 ((rnd neg num den exp mode).1 : Int), .int .i64 ((rnd neg num den exp mode).2 : Int)]) ∧ Below w.heap.size w W' := by
  obtain ⟨P, hP⟩ : ∃ P, P = rnd neg num den exp mode := ⟨_, rfl⟩
  rw [← hP]
  have hbA := rbits_num hA (by omega)
  obtain ⟨na, hna⟩ : ∃ na, na = nbits num := ⟨_, rfl⟩
  obtain ⟨nb, hnb⟩ : ∃ nb, nb = nbits den := ⟨_, rfl⟩
  have hna' : na ≤ 64000 := by have := nbits16 hA.2; omega
  have hnb' : nb ≤ 64000 := by have := nbits16 hB.2; omega
  have hlen : rlen num den exp = (na : Int) - nb + exp := by unfold rlen; rw [hna, hnb]
  obtain ⟨xa, xc, rfl, hxc⟩ := hA.slice
  obtain ⟨ya, yc, rfl, hyc⟩ := hB.slice
  clear hxc hyc
  rw [← hna] at hbA
  by_cases hbig : 2000 < (na : Int) - nb + exp
  · have hr : rnd neg num den exp mode = rbig neg mode := rnd_far hn hd (by omega)
    rw [hP, hr]
    go_enter Try.func35, Try.ntmps35
    go_wp2_with fail
    refine hbA.mono ?_
    rintro e w1 ⟨rfl, b1⟩
    have hbB := rbits_num (hB.behind b1) (by omega)
    rw [← hnb] at hbB
    go_wp2_with fail
    refine hbB.mono ?_
    rintro e w2 ⟨rfl, b2⟩
    replace b1 := below_both b1 b2
    go_wp2_with fail
    refine (big6 neg mode _).mono ?_
    rintro e w3 ⟨rfl, rfl⟩
    go_wp2
    go_ret2
    exact ⟨rfl, b1⟩
  · go_enter Try.func35, Try.ntmps35
    go_wp2_with fail
    refine hbA.mono ?_
    rintro e w1 ⟨rfl, b1⟩
    have hbB := rbits_num (hB.behind b1) (by omega)
    rw [← hnb] at hbB
    go_wp2_with fail
    refine hbB.mono ?_
    rintro e w2 ⟨rfl, b2⟩
    replace hA := hA.behind (below_both b1 b2)
    replace hB := hB.behind (below_both b1 b2)
    replace b1 := below_both b1 b2
    clear b2 hbA hbB
    go_upto_if 45 with (fail)
    go_cut [1, 2, 3, 13] from 45 to 47 (fun a b c e wx => ∃ (num' den' : Nat) (exp' : Int), Hid (rnd neg num' den' exp' mode = P) ∧ Rel6 exp' num' den' i j a b c e w wx)
    case first =>
      have L1 : nbits 1 = 1 := rfl
      go_wp2_with fail
      · go_meet
        case rel =>
          have hx : rnd neg 1 1 (-3000) mode = P := by
            rw [hP, rnd_near hn hd (by omega), rnd_near (by decide) (by decide) (by unfold rlen; rw [L1]; omega)]
          have r1 : RN (w2.alloc (.cells #[.int .i64 1] 3)) (.slice (some ⟨w2.heap.size, 0, none⟩) 1 1) 1 1 := rn_one w2 1 (by decide) (by decide)
          have r2 : RN ((w2.alloc (.cells #[.int .i64 1] 3)).alloc (.cells #[.int .i64 1] 3)) (.slice (some ⟨w2.heap.size + 1, 0, none⟩) 1 1) 1 1 := by simpa using rn_one (w2.alloc (.cells #[.int .i64 1] 3)) 1 (by decide) (by decide)
          have B1 := (Below.refl w2.heap.size w2).alloc (Nat.le_refl _) (.cells #[.int .i64 1] 3)
          have B2 := (Below.refl (w2.alloc (.cells #[.int .i64 1] 3)).heap.size (w2.alloc (.cells #[.int .i64 1] 3))).alloc (Nat.le_refl _) (.cells #[.int .i64 1] 3)
          exact ⟨1, 1, -3000, Lib.hid hx, (r1.behind B2).le hi1, r2.le hj1, rfl, by unfold rfrom rlen; rw [L1]; rfl, by decide, by decide, by omega, by omega, by unfold rlen; rw [L1]; omega, by unfold rlen; rw [L1]; omega, below_both b1 (below_both B1 B2)⟩
      · go_meet
        case rel =>
          exact ⟨num, den, exp, Lib.hid hP.symm, hA, hB, rfl, by unfold rfrom rlen; rfl, hn, hd, he1, he2, by omega, by omega, b1⟩
    case rest =>
      obtain ⟨num', den', exp', hres, hR⟩ := hcut
      clear hP hA hB hn hd he1 he2 hbig hlen hna' hnb' hna hnb b1
      obtain ⟨hA, hB, rfl, rfl, hn, hd, he1, he2, hl1, hl2, b1⟩ := hR
      obtain ⟨xa, xc, rfl, hxc⟩ := hA.slice
      obtain ⟨ya, yc, rfl, hyc⟩ := hB.slice
      clear hxc hyc
      obtain ⟨f1, f2, f3⟩ := qat_from hn hd exp'
      have g1 := qat_succ num' hd exp' (rfrom num' den' exp')
      have g2 := qat_succ num' hd exp' (rfrom num' den' exp' + 1)
      rw [show rfrom num' den' exp' + 1 + 1 = rfrom num' den' exp' + 2 by omega] at g2
      have hf4 : rfrom num' den' exp' ≤ 1946 := by unfold rfrom; omega
      go_upto_block 0 with (fail)
      go_cut [13, 14, 15, 16, 17, 18, 19] from 48 to 79 (fun e q r d t u18 u19 wx => Ex6 num' den' i j exp' e q r d wc wx)
      case first =>
       go_wp2_with fail
       go_loopw [13, 14, 15, 16, 17] (fun e q r d t wr => Lp6 num' den' i j exp' e q r d t wc wr) (fun _ _ _ _ t _ => 9 - (intOf t).toNat)
       case atStart => exact ⟨Below.refl _ _, .inl ⟨rfl, rfl, rfl, rfl, rfl⟩⟩
       case round =>
         obtain ⟨b2, ⟨rfl, rfl, rfl, rfl, rfl⟩ | ⟨T, n, E, z, hT, rfl, hz, hE, rfl, rfl, hnq, hn55, rR, rD, k1, k2⟩⟩ := hrel
         · have hs := rshift_num (n := exp' - rfrom num' den' exp') (hA.behind b2) (hB.behind b2) (by omega) (by omega) (by omega) (by omega)
           go_wp2_with fail
           refine hs.mono ?_
           rintro e w3 ⟨x, y, rfl, rx, ry, b3⟩
           have hw := rfew_num rx ry (by omega) (by omega) (lower_pos hd _) (Nat.lt_trans f1 (by decide))
           clear hs
           replace b3 := below_both b2 b3
           go_wp2_with fail
           refine hw.mono ?_
           rintro e w4 ⟨r, rfl, rr, b4⟩
           clear hw
           replace ry := ry.behind b4
           replace b4 := below_both b3 b4
           go_wp2
           go_roundw
           case rel => exact ⟨b4, .inr ⟨0, _, _, _, by omega, rfl, by simp, by simp, rfl, rfl, rfl, f1, rr, ry, by omega, by omega⟩⟩
           case measure => simp [intOf]
         · by_cases hq : 9007199254740992 ≤ n
           · have hT2 : T ≤ 1 := by
               refine Nat.not_lt.1 fun h => ?_
               obtain rfl : T = 2 := by omega
               rw [hE] at hnq
               have hnq' : n = qat num' den' exp' (rfrom num' den' exp' + 2) := hnq
               omega
             have hn' : qat num' den' exp' (E + 1) < 36028797018963968 := by
               rw [qat_succ num' hd, ← hnq]; omega
             have hs := rshift_num (n := exp' - (E + 1)) (hA.behind b2) (hB.behind b2) (by omega) (by omega) (by omega) (by omega)
             have hE2 : E ≤ 1948 := by omega
             have hE3 : -1074 ≤ E := by omega
             have hz1 : 0 < z := by omega
             have hz2 : z ≤ 2 := by omega
             have HE := Lib.hid hE
             have HN := Lib.hid hnq
             have HZ := Lib.hid hz
             have HN' := Lib.hid hn'
             clear hE hnq hz f1 f2 f3 g1 g2 hf4 hn'
             go_wp2_with fail
             refine hs.mono ?_
             rintro e w3 ⟨x, y, rfl, rx, ry, b3⟩
             have hw := rfew_num rx ry (by omega) (by omega) (lower_pos hd _) (Nat.lt_trans HN'.out (by decide))
             clear hs
             replace b3 := below_both b2 b3
             go_wp2_with fail
             refine hw.mono ?_
             rintro e w4 ⟨r, rfl, rr, b4⟩
             clear hw
             replace ry := ry.behind b4
             replace b4 := below_both b3 b4
             go_wp2
             go_roundw
             case rel =>
               have hE := HE.out
               have hnq := HN.out
               have hz := HZ.out
               have hn' := HN'.out
               refine ⟨b4, .inr ⟨T + 1, _, E + 1, z + 1, by omega, rfl, by omega, by omega, rfl, rfl, rfl, hn', rr, ry, fun _ => ?_, fun h => ?_⟩⟩
               · by_cases h0 : T = 0
                 · subst h0
                   rw [hE, Int.natCast_zero, Int.add_zero] at hnq
                   omega
                 · exact k1 (by omega)
               · obtain rfl : T = 1 := by omega
                 rw [hE] at hnq
                 have hnq' : n = qat num' den' exp' (rfrom num' den' exp' + 1) := hnq
                 omega
             case measure => simp [intOf]; omega
           · have hEe : E = rexp num' den' exp' := by
               unfold rexp
               by_cases h0 : T = 0
               · subst h0
                 rw [Int.natCast_zero, Int.add_zero] at hE
                 rw [hE] at hnq
                 rw [if_pos (by omega), hE]
               · rw [if_neg (by have := k1 (by omega); omega)]
                 by_cases h1 : T = 1
                 · subst h1
                   have hE' : E = rfrom num' den' exp' + 1 := hE
                   rw [hE'] at hnq
                   rw [if_pos (by omega), hE']
                 · obtain rfl : T = 2 := by omega
                   rw [if_neg (by have := k2 (by omega); omega)]
                   exact hE
             have hfit := rexp_fits hn hd exp'
             rw [← hEe, ← hnq] at hfit
             have HX : Ex6 num' den' i j exp' (.int .i64 E) (.int .u64 (n : Int)) u15 u16 wc wr := ⟨n, E, rfl, rfl, hEe, hnq, rR, rD, b2⟩
             have hz3 : z = 1 ∨ z = 2 ∨ z = 3 := by omega
             have hn53 : ¬ (9007199254740992 : Int) ≤ (n : Int) := by omega
             clear hq hnq hres hEe k1 k2 hE g1 g2 f1 f2 f3 hf4 hn55 hz hT hfit
             rcases hz3 with rfl | rfl | rfl
             · go_wp2_with fail
               go_meet
               case rel => exact HX
             · go_wp2_with fail
               go_meet
               case rel => exact HX
             · go_wp2_with fail
               go_meet
               case rel => exact HX
      case rest =>
            obtain ⟨n, E, rfl, rfl, hEe, hnq, rR, rD, b2⟩ := hcut
            have hfit := rexp_fits hn hd exp'
            rw [← hEe, ← hnq] at hfit
            have hres' := hres.out
            unfold rnd at hres'
            rw [← hEe, ← hnq] at hres'
            have HRES := Lib.hid hres'
            have hlp := lower_pos hd (exp' - E)
            have hRl : rst num' den' (exp' - E) < lower den' (exp' - E) := Nat.mod_lt _ hlp
            have hE2 : E ≤ 1948 := by
              rw [hEe]
              unfold rexp
              split
              · omega
              · split <;> omega
            have hE3 : -1074 ≤ E := hfit.1
            clear hnq hres hres' hEe g1 g2 f1 f2 f3 hf4
            generalize rst num' den' (exp' - E) = R at *
            generalize lower den' (exp' - E) = D at *
            obtain ⟨ra, rc, rfl, hrc⟩ := rR.slice
            clear hrc
            have hdl := digs_some R
            have hr0 := rR.len
            have hrk : 2 * R < 65536 ^ (i + 4099) := by
              have := rR.2
              rw [show i + 4099 = i + 4098 + 1 by omega, Nat.pow_succ]; omega
            generalize (digs 65536 R).length = L at *
            obtain ⟨inx, hinx⟩ : ∃ inx, inx = decide (R ≠ 0) := ⟨_, rfl⟩
            obtain ⟨c, hc⟩ : ∃ c, cmpN (2 * R) D = c := ⟨_, rfl⟩
            have hc3 := cmpN_three (2 * R) D
            rw [hc] at hc3
            rw [← hinx] at hdl
            rw [← hinx, hc] at HRES
            have HC := Lib.hid hc
            have HK := Lib.hid hrk
            have HC3 := Lib.hid hc3
            clear hc hrk hinx hc3
            have hs := rshift_num (n := exp' + 1022) (hA.behind b2) (hB.behind b2) (by omega) (by omega) (by omega) (by omega)
            have htn := cmpN_dec (upper num' (exp' + 1022)) (lower den' (exp' + 1022))
            have hti : decide (upper num' (exp' + 1022) < lower den' (exp' + 1022)) = rtiny num' den' exp' := rfl
            rw [hti] at htn
            generalize rtiny num' den' exp' = tn at *
            generalize upper num' (exp' + 1022) = U at *
            generalize lower den' (exp' + 1022) = V at *
            obtain ⟨c2, hc2⟩ : ∃ c2, cmpN U V = c2 := ⟨_, rfl⟩
            rw [hc2] at htn
            have HC2 := Lib.hid hc2
            have HT := Lib.hid htn
            have HL : Hid (decide (0 < L) = inx) := Lib.hid hdl
            have HFIT := Lib.hid hfit
            clear hc2 hti hlp hRl htn hdl hfit
            go_wp2_with fail
            refine hs.mono ?_
            rintro e w3 ⟨x, y, rfl, rx, ry, b3⟩
            replace rR := rR.behind b3
            replace rD := rD.behind b3
            replace b3 := below_both b2 b3
            clear hs
            go_wp2_with fail
            refine (rcmpc rx ry (by omega) (by omega) HC2.out).mono ?_
            rintro e w4 ⟨rfl, b4⟩
            replace rR := rR.behind b4
            replace rD := rD.behind b4
            replace b3 := below_both b3 b4
            clear b4
            go_wp2_with fail
            refine (rshl1 (k := i + 4099) rR (by omega) HK.out).mono ?_
            rintro e w5 ⟨v5, rfl, r5, b5⟩
            replace rD := rD.behind b5
            replace b3 := below_both b3 b5
            clear b5
            go_wp2_with fail
            refine (rcmpc r5 rD (by omega) (by omega) HC.out).mono ?_
            rintro e w6 ⟨rfl, b6⟩
            replace b3 := below_both b3 b6
            replace b1 := below_both b1 b3
            clear b6 b3 rx ry rR rD r5 hA hB
            go_upto_block 2 with (fail)
            rw [HL.out, HT.out]
            have hc3 := HC3.out
            have hn53 : ¬ (9007199254740992 : Int) ≤ (n : Int) := by have := HFIT.out.2.1; omega
            go_cut [25] from 99 to 129 (fun u wx => u = .bool (rup neg mode n inx c) ∧ wx = w6)
            case first =>
              by_cases m1 : mode = 1
              · subst m1
                rcases hc3 with rfl | rfl | rfl
                · go_wp2_with fail
                  go_meet
                  case rel => exact ⟨by simp [rup], rfl⟩
                · go_wp2_with fail
                  go_meet
                  case rel => exact ⟨by simp [rup], rfl⟩
                · go_wp2_with fail
                  go_meet
                  case rel => exact ⟨by simp [rup], rfl⟩
              by_cases m2 : mode = 2
              · subst m2
                go_wp2_with fail
                go_meet
                case rel => exact ⟨by simp [rup], rfl⟩
              by_cases m3 : mode = 3
              · subst m3
                cases inx
                · go_wp2_with fail
                  go_meet
                  case rel => exact ⟨by simp [rup], rfl⟩
                · cases neg
                  · go_wp2_with fail
                    go_meet
                    case rel => exact ⟨by simp [rup], rfl⟩
                  · go_wp2_with fail
                    go_meet
                    case rel => exact ⟨by simp [rup], rfl⟩
              by_cases m4 : mode = 4
              · subst m4
                cases inx
                · go_wp2_with fail
                  go_meet
                  case rel => exact ⟨by simp [rup], rfl⟩
                · cases neg
                  · go_wp2_with fail
                    go_meet
                    case rel => exact ⟨by simp [rup], rfl⟩
                  · go_wp2_with fail
                    go_meet
                    case rel => exact ⟨by simp [rup], rfl⟩
              have hm : ∀ h, rup neg mode n inx h = (decide (0 < h) || (decide (h = 0) && decide (n % 2 = 1))) := fun h => by unfold rup; rw [if_neg m1, if_neg m2, if_neg m3, if_neg m4]
              have b1 : (mode == 1) = false := by simp [m1]
              have b2 : (mode == 2) = false := by simp [m2]
              have b3 : (mode == 3) = false := by simp [m3]
              have b4 : (mode == 4) = false := by simp [m4]
              clear m1 m2 m3 m4
              have hp : n % 2 = 0 ∨ n % 2 = 1 := by omega
              rcases hc3 with rfl | rfl | rfl
              · go_wp2_with fail
                go_meet
                case rel => exact ⟨by rw [hm]; rfl, rfl⟩
              · rcases hp with hp | hp
                · have hpi : ((n : Int) % 2) = 0 := by omega
                  go_wp2_with fail
                  go_meet
                  case rel => exact ⟨by rw [hm]; simp [hp], rfl⟩
                · have hpi : ((n : Int) % 2) = 1 := by omega
                  go_wp2_with fail
                  go_meet
                  case rel => exact ⟨by rw [hm]; simp [hp], rfl⟩
              · go_wp2_with fail
                go_meet
                case rel => exact ⟨by rw [hm]; rfl, rfl⟩
            case rest =>
              obtain ⟨rfl, hW⟩ := hcut
              cases hW
              obtain ⟨up, hup⟩ : ∃ up, up = rup neg mode n inx c := ⟨_, rfl⟩
              have hres := HRES.out
              unfold fin at hres
              rw [← hup] at hres ⊢
              have HRES := Lib.hid hres
              have hz6 := zero6 neg w6
              have hb6 := big6 neg mode w6
              have hs1 := sgn_le neg
              generalize sgn neg = sg at *
              clear hres hup HL HT HFIT HC3 hr0 b2
              go_upto_if 130 with (fail)
              go_cut [14] from 131 to 132 (fun u wy => u = .int .u64 ((if up then n + 1 else n : Nat) : Int) ∧ wy = w6)
              case first =>
                cases up
                · go_wp2_with fail
                  go_meet
                  case rel => exact ⟨rfl, rfl⟩
                · go_wp2_with fail
                  go_meet
                  case rel => exact ⟨by simp, rfl⟩
              case rest =>
                obtain ⟨rfl, hW⟩ := hcut
                cases hW
                obtain ⟨q1, hq1⟩ : ∃ q1, q1 = (if up then n + 1 else n) := ⟨_, rfl⟩
                have hq53 : (q1 : Int) ≤ 9007199254740992 := by rw [hq1]; split <;> omega
                have hres := HRES.out
                rw [← hq1] at hres ⊢
                have HRES := Lib.hid hres
                clear hres hq1 hn53
                go_upto_if 133 with (fail)
                go_cut [26] from 134 to 134 (fun u wy => u = .int .i64 (rflags inx tn : Int) ∧ wy = w6)
                case first =>
                  cases inx
                  · go_wp2_with fail
                    go_meet
                    case rel => exact ⟨rfl, rfl⟩
                  · cases tn
                    · go_wp2_with fail
                      go_meet
                      case rel => exact ⟨rfl, rfl⟩
                    · go_wp2_with fail
                      go_meet
                      case rel => exact ⟨rfl, rfl⟩
                case rest =>
                  obtain ⟨rfl, hW⟩ := hcut
                  cases hW
                  have hres := HRES.out
                  have hfl : rflags inx tn ≤ 24 := by cases inx <;> cases tn <;> decide
                  generalize rflags inx tn = fl at *
                  obtain ⟨q2, hq2⟩ : ∃ q2, q2 = (if 9007199254740992 ≤ q1 then q1 / 2 else q1) := ⟨_, rfl⟩
                  obtain ⟨e2, he2⟩ : ∃ e2, e2 = (if 9007199254740992 ≤ q1 then E + 1 else E) := ⟨_, rfl⟩
                  simp only [← hq2, ← he2] at hres
                  have hq52 : (q2 : Int) < 9007199254740992 := by rw [hq2]; split <;> omega
                  have he3 : -1074 ≤ e2 := by rw [he2]; split <;> omega
                  have he4 : e2 ≤ 1949 := by rw [he2]; split <;> omega
                  have HQ2 := Lib.hid hq2
                  have HE2 := Lib.hid he2
                  have HRES := Lib.hid hres
                  clear hres hq2 he2
                  go_upto_if 136 with (fail)
                  go_cut [13, 14] from 136 to 140 (fun e u wy => u = .int .u64 (q2 : Int) ∧ e = .int .i64 e2 ∧ wy = w6)
                  case first =>
                    clear hq52 he3 he4
                    by_cases hc53 : (9007199254740992 : Int) ≤ (q1 : Int)
                    · have h1 := HQ2.out
                      have h2 := HE2.out
                      rw [if_pos (by omega)] at h1 h2
                      have H1 := Lib.hid h1
                      have H2 := Lib.hid h2
                      rw [decide_eq_true hc53]
                      have hq54 : (q1 : Int) < 18014398509481984 := by omega
                      clear h1 h2 hc53 hq53
                      go_wp2_with fail
                      go_meet
                      case rel => exact ⟨by rw [H1.out]; simp, by rw [H2.out], rfl⟩
                    · have h1 := HQ2.out
                      have h2 := HE2.out
                      rw [if_neg (by omega)] at h1 h2
                      have H1 := Lib.hid h1
                      have H2 := Lib.hid h2
                      rw [decide_eq_false hc53]
                      clear h1 h2 hc53 hq53
                      go_wp2_with fail
                      go_meet
                      case rel => exact ⟨by rw [H1.out], by rw [H2.out], rfl⟩
                  case rest =>
                    obtain ⟨rfl, rfl, hW⟩ := hcut
                    cases hW
                    have hres := HRES.out
                    clear HQ2 HE2 hq53
                    by_cases hA : (4503599627370496 : Int) ≤ (q2 : Int)
                    · by_cases hB : 971 < e2
                      · rw [if_pos ⟨by omega, hB⟩] at hres
                        subst hres
                        go_wp2_with fail
                        refine hb6.mono ?_
                        rintro e w7 ⟨rfl, rfl⟩
                        go_wp2
                        go_ret2
                        exact ⟨rfl, b1⟩
                      · rw [if_neg (by omega), if_neg (by omega)] at hres
                        obtain ⟨x, hx⟩ : ∃ x : Nat, e2 = (x : Int) - 1075 := ⟨(e2 + 1075).toNat, by omega⟩
                        subst hx
                        rw [show ((x : Int) - 1075 + 1075).toNat = x by omega] at hres
                        subst hres
                        go_upto_if 153 with (fail)
                        have hlt : ¬ (q2 : Int) < 4503599627370496 := by omega
                        rw [decide_eq_false hlt]
                        have hx1 : (x : Int) ≤ 2046 := by omega
                        have hq2' : (q2 : Int) < 9007199254740992 := hq52
                        have hsi : (sg : Int) ≤ 9223372036854775808 := by omega
                        have HE1 : Hid (((sg + x * 4503599627370496 + q2 - 4503599627370496 : Nat) : Int) = (sg : Int) + (x : Int) * 4503599627370496 + (q2 : Int) - 4503599627370496) := Lib.hid (by omega)
                        clear hlt hq52 he3 he4 hB hs1
                        go_wp2_with fail
                        refine hz6.mono ?_
                        rintro e w7 ⟨rfl, rfl⟩
                        go_wp2
                        go_ret2
                        exact ⟨by rw [HE1.out]; rfl, b1⟩
                    · rw [if_neg (by omega), if_pos (by omega)] at hres
                      subst hres
                      go_upto_if 153 with (fail)
                      have hlt : (q2 : Int) < 4503599627370496 := by omega
                      rw [decide_eq_true hlt]
                      have hsum : (sg : Int) + (q2 : Int) < 18446744073709551616 := by omega
                      clear hlt hA hq52 hs1 he3 he4
                      go_wp2_with fail
                      refine hz6.mono ?_
                      rintro e w7 ⟨rfl, rfl⟩
                      go_wp2
                      go_ret2
                      exact ⟨by simp, b1⟩
end Go.Proofs.Ytgobclmihppopab
