/- vernierref06.Sqrt: the exact root, rounded. -/
import Derived.Test.YtgobclmihppopaaRefMul
import Derived.Deep.CutBlock
import Derived.Deep.DeepCutAuto
namespace Go.Proofs.Ytgobclmihppopaa
open Go.RowKit Go.Shelf

/-- the root, bit by bit -/
def rtF (n : Nat) : Nat → Nat → Nat
  | 0, q => q
  | k + 1, q => rtF n k (if (q + 2 ^ k) * (q + 2 ^ k) ≤ n then q + 2 ^ k else q)
def rt (n : Nat) : Nat := rtF n 71 0
/-- how far a number is shifted up: 120 bits at least, to an even power -/
def sqt (m : Nat) (x : Int) : Nat := if (x - ((120 - nbits m : Nat) : Int)) % 2 = 0 then 120 - nbits m else 120 - nbits m + 1
def rootN (m : Nat) (x mode : Int) : Nat × Nat :=
  rnd false (2 * rt (m * 2 ^ sqt m x) + (if rt (m * 2 ^ sqt m x) * rt (m * 2 ^ sqt m x) < m * 2 ^ sqt m x then 1 else 0)) 1 ((x - sqt m x) / 2 - 1) mode
def rsqrt (a : Nat) (mode : Int) : Nat × Nat :=
  if cls a = 3 then (9221120237041090560, 0) else if cls a = 0 then (a, 0) else if neg6 a = true then (9221120237041090560, 1) else if cls a = 2 then (a, 0)
  else rootN (sig a) (xpo a) mode
theorem rtF_sq {n : Nat} (k : Nat) {q : Nat} (h1 : q * q ≤ n) (h2 : n < (q + 2 ^ k) * (q + 2 ^ k)) : rtF n k q * rtF n k q ≤ n ∧ n < (rtF n k q + 1) * (rtF n k q + 1) := by
  induction k generalizing q with
  | zero => exact ⟨h1, h2⟩
  | succ k ih =>
    unfold rtF
    by_cases h : (q + 2 ^ k) * (q + 2 ^ k) ≤ n
    · rw [if_pos h]
      exact ih h (by rw [Nat.add_assoc, show 2 ^ k + 2 ^ k = 2 ^ (k + 1) by rw [Nat.pow_succ]; omega]; exact h2)
    · rw [if_neg h]
      exact ih h1 (by omega)
theorem nbits_shift {m : Nat} (hm : 0 < m) (s : Nat) : nbits (m * 2 ^ s) = nbits m + s := by
  obtain ⟨a1, a2, a3⟩ := nbits_bounds (Nat.ne_of_gt hm)
  have e : nbits m + s = nbits m - 1 + s + 1 := by omega
  rw [e]
  refine nbits_eq ?_ ?_
  · rw [Nat.pow_add]; exact Nat.mul_le_mul_right _ a2
  · rw [← e, Nat.pow_add]; exact Nat.mul_lt_mul_of_pos_right a3 (Nat.two_pow_pos _)
theorem sqt_facts {m : Nat} {x : Int} : (x - (sqt m x : Int)) % 2 = 0 ∧ 120 - nbits m ≤ sqt m x ∧ sqt m x ≤ 120 - nbits m + 1 ∧ (∀ s : Nat, s < sqt m x → 120 - nbits m ≤ s → ¬ (x - (s : Int)) % 2 = 0) := by
  unfold sqt
  by_cases h : (x - ((120 - nbits m : Nat) : Int)) % 2 = 0
  · rw [if_pos h]
    exact ⟨h, Nat.le_refl _, by omega, fun s h1 h2 => by omega⟩
  · rw [if_neg h]
    refine ⟨by omega, by omega, Nat.le_refl _, fun s h1 h2 => ?_⟩
    obtain rfl : s = 120 - nbits m := by omega
    exact h
theorem tmod_two (X : Int) : X.tmod 2 = 0 ↔ X % 2 = 0 := by
  rcases Int.lt_or_le X 0 with h | h
  · have e : X.tmod 2 = -((-X) % 2) := by
      rw [show X = -(-X) by omega, Int.neg_tmod, Int.tmod_eq_emod_of_nonneg (by omega)]
      simp
    rw [e]
    omega
  · rw [Int.tmod_eq_emod_of_nonneg h]
set_option maxRecDepth 100000 in
set_option maxHeartbeats 16000000 in
theorem sqrt6 {a : Nat} {mode : Int} {w : World} (ha : (a : Int) ≤ 18446744073709551615) :
    Calls Try.prog 34 #[.int .u64 (a : Int), .int .i64 mode] w fun e W' => e = .returned (.tuple #[.int .u64 ((rsqrt a mode).1 : Int), .int .i64 ((rsqrt a mode).2 : Int)]) ∧ Below w.heap.size w W' := by
  obtain ⟨P, hP⟩ : ∃ P, P = rsqrt a mode := ⟨_, rfl⟩
  rw [← hP]
  unfold rsqrt at hP
  have hA := fun w => class6 (W := w) ha
  have hx : cls a = 0 ∨ cls a = 1 ∨ cls a = 2 ∨ cls a = 3 := by have := cls_le a; omega
  have hng : ∀ s, neg6 a = s → decide ((9223372036854775808 : Int) ≤ (a : Int)) = s := fun s h => h
  rcases hx with hx | hx | hx | hx
  · skip
    rw [hx] at hA
    simp only [hx, reduceIte, show ¬ (0 : Nat) = 2 from by decide, show ¬ (0 : Nat) = 3 from by decide] at hP
    subst hP
    clear hx hng
    go_enter Try.func34, Try.ntmps34
    go_wp2_with fail
    refine (hA _).mono ?_
    rintro e w1 ⟨rfl, rfl⟩
    go_wp2
    go_ret2
    exact ⟨rfl, Below.refl _ _⟩
  · skip
    rw [hx] at hA
    simp only [hx, reduceIte, show ¬ (1 : Nat) = 0 from by decide, show ¬ (1 : Nat) = 2 from by decide, show ¬ (1 : Nat) = 3 from by decide] at hP
    cases hn : neg6 a
    · skip
      have HN := Lib.hid (hng _ hn)
      simp only [hn, Bool.false_eq_true, reduceIte] at hP
      have hsp := fun w => split6 (W := w) ha
      rw [hn] at hsp
      have rx := xpo_range06 a
      have hs := sig_lt06 a
      have hm0 := sig_pos hx
      have hnb : nbits (sig a) ≤ 64 := nbits_le (show sig a < 2 ^ 64 from hs)
      unfold rootN at hP
      generalize sig a = m at *
      generalize xpo a = x at *
      obtain ⟨f1, f2, f3, f4⟩ := sqt_facts (m := m) (x := x)
      generalize sqt m x = T at *
      have HS := Lib.hid hs
      have HP := Lib.hid hP
      have HF4 := Lib.hid f4
      have HF1 := Lib.hid f1
      clear hP hx hng hn hs f4 f1
      go_enter Try.func34, Try.ntmps34
      go_wp2_with fail
      refine (hA _).mono ?_
      rintro e w1 ⟨rfl, rfl⟩
      go_upto_if 24 with (fail)
      rw [HN.out]
      go_wp2_with fail
      refine (hsp _).mono ?_
      rintro e w2 ⟨rfl, rfl⟩
      clear hsp hA
      go_wp2_with fail
      refine (word6 HS.out).mono ?_
      rintro e w3 ⟨v3, rfl, r3, b1⟩
      replace r3 := r3.le (k' := 12) (by omega)
      have hsz : ∀ s, s ≤ 121 → m * 2 ^ s < 65536 ^ 12 := fun s h => by
        have h1 : m * 2 ^ s < 2 ^ 64 * 2 ^ s := Nat.mul_lt_mul_of_pos_right HS.out (Nat.two_pow_pos _)
        rw [← Nat.pow_add] at h1
        have h2 : 2 ^ (64 + s) ≤ 2 ^ 192 := Nat.pow_le_pow_right (by decide) (by omega)
        have h3 : (65536 : Nat) ^ 12 = 2 ^ 192 := by decide
        omega
      have HSZ := Lib.hid hsz
      clear hsz
      go_upto_block 1 with (fail)
      go_cut [9, 10] from 39 to 50 (fun xx nn wx => xx = .int .i64 (x - (T : Int)) ∧ RN wx nn (m * 2 ^ T) 12 ∧ Below w.heap.size w wx)
      case first =>
        go_wp2_with fail
        go_loopw [9, 10] (fun xx nn wr => ∃ (s : Nat) (X : Int), s ≤ T ∧ xx = .int .i64 X ∧ X = x - (s : Int) ∧ RN wr nn (m * 2 ^ s) 12 ∧ Below w.heap.size w wr) (fun xx _ _ => (intOf xx - (x - (T : Int))).toNat)
        case atStart => exact ⟨0, x, Nat.zero_le _, rfl, by simp, by rw [Nat.pow_zero, Nat.mul_one]; exact r3, b1⟩
        case round =>
          obtain ⟨s, X, hsT, rfl, hX, rn, hB⟩ := hrel
          have hnbs := nbits_shift hm0 s
          have hbits := rbits_num rn (by omega)
          rw [hnbs] at hbits
          have hi1 : ((nbits m + s : Nat) : Int) = (nbits m : Int) + (s : Int) := by omega
          by_cases hst : s < T
          · have hsh := fun w' (h : Below wr.heap.size wr w') => rshl1 (k := 12) (rn.behind h) (by omega) (by have := HSZ.out (s + 1) (by omega); rw [Nat.pow_succ, ← Nat.mul_assoc] at this; omega)
            have e2 : 2 * (m * 2 ^ s) = m * 2 ^ (s + 1) := by rw [Nat.pow_succ, Nat.mul_comm 2, Nat.mul_assoc]
            have E2 := Lib.hid e2
            have hX1 : -2000 ≤ X := by omega
            have hX2 : X ≤ 2000 := by omega
            have HX := Lib.hid hX
            by_cases hev : X % 2 = 0
            · have hlo : s < 120 - nbits m := by
                refine Nat.not_le.1 fun h => ?_
                exact HF4.out s hst h (by rw [← hX]; exact hev)
              have htm := (tmod_two X).2 hev
              have hb1 : ((nbits m + s : Nat) : Int) ≤ 119 := by omega
              generalize nbits m + s = B at *
              clear hX hev e2 hi1 hlo f2 f3
              go_wp2_with fail
              refine hbits.mono ?_
              rintro e w4 ⟨rfl, b4⟩
              go_wp2_with fail
              refine (hsh _ b4).mono ?_
              rintro e w5 ⟨v5, rfl, r5, b5⟩
              rw [E2.out] at r5
              replace hB := below_both hB (below_both b4 b5)
              clear b4 b5 hsh hbits
              go_wp2
              go_roundw
              case rel => exact ⟨s + 1, X - 1, by omega, rfl, by have := HX.out; omega, r5, hB⟩
              case measure => have := HX.out; simp [intOf]; omega
            · have htm : ¬ X.tmod 2 = 0 := fun h => hev ((tmod_two X).1 h)
              clear hX hev e2 hi1 f2 f3 hbits
              go_wp2_with fail
              refine (hsh _ (Below.refl _ _)).mono ?_
              rintro e w5 ⟨v5, rfl, r5, b5⟩
              rw [E2.out] at r5
              replace hB := below_both hB b5
              clear b5 hsh
              go_wp2
              go_roundw
              case rel => exact ⟨s + 1, X - 1, by omega, rfl, by have := HX.out; omega, r5, hB⟩
              case measure => have := HX.out; simp [intOf]; omega
          · obtain rfl : s = T := by omega
            have htm := (tmod_two X).2 (by rw [hX]; exact HF1.out)
            have hb1 : (120 : Int) ≤ ((nbits m + s : Nat) : Int) := by omega
            have HX := Lib.hid hX
            generalize nbits m + s = B at *
            clear hX hi1 hst f2 f3
            go_wp2_with fail
            refine hbits.mono ?_
            rintro e w4 ⟨rfl, b4⟩
            go_wp2_with fail
            go_meet
            case rel => exact ⟨by rw [HX.out], rn.behind b4, below_both hB b4⟩
      case rest =>
        obtain ⟨rfl, rn, b2⟩ := hcut
        have hN1 : nbits (m * 2 ^ T) ≤ 121 := by rw [nbits_shift hm0]; omega
        have hN2 : m * 2 ^ T < (0 + 2 ^ 71) * (0 + 2 ^ 71) := by
          have h1 := nbits_lt (m * 2 ^ T)
          have h2 : 2 ^ nbits (m * 2 ^ T) ≤ 2 ^ 121 := Nat.pow_le_pow_right (by decide) hN1
          have h3 : (2 : Nat) ^ 121 < (0 + 2 ^ 71) * (0 + 2 ^ 71) := by decide
          omega
        have hN0 : 0 < m * 2 ^ T := Nat.mul_pos hm0 (Nat.two_pow_pos _)
        obtain ⟨y, hy⟩ : ∃ y, x - (T : Int) = 2 * y := ⟨(x - (T : Int)) / 2, by have := HF1.out; omega⟩
        have hp := HP.out
        rw [hy, show (2 * y) / 2 = y by omega] at hp
        have hsq := rtF_sq (n := m * 2 ^ T) 71 (q := 0) (by omega) hN2
        have hR : rtF (m * 2 ^ T) 71 0 = rt (m * 2 ^ T) := rfl
        rw [hR] at hsq
        have hy1 : -2000 ≤ y := by omega
        have hy2 : y ≤ 2000 := by omega
        rw [hy]
        generalize m * 2 ^ T = N at *
        generalize hRR : rt N = R at *
        have hR0 : 0 < R := by
          rcases Nat.eq_zero_or_pos R with z | z
          · subst z; have := hsq.2; omega
          · exact z
        have HP2 := Lib.hid hp
        have HR := Lib.hid hR
        obtain ⟨na, nc, rfl, hnc⟩ := rn.slice
        clear hnc hp hR hsq hN0 hN1 hN2 hy hRR HP HF1 HF4 HSZ HS f2 f3 hm0 hnb rx b1 r3
        generalize (digs 65536 N).length = L at *
        go_wp2
        go_loopw [11, 12] (fun q i wr => ∃ (k Q : Nat) (z : Int), i = .int .i64 z ∧ z + 1 = k ∧ k ≤ 71 ∧ Hid (rtF N k Q = R) ∧ Hid (Q + 2 ^ k ≤ 2 ^ 71) ∧ RN wr q Q 6 ∧ Below wc.heap.size wc wr) (fun _ i _ => (intOf i + 1).toNat)
        case atStart =>
          have hz0 : 0 < wc.heap.size := by obtain ⟨⟨S, hS, _⟩, _⟩ := rn; omega
          exact ⟨71, 0, _, rfl, by omega, Nat.le_refl _, HR, Lib.hid (by omega), ⟨⟨0, hz0, by rw [digs_zero]; exact .inl ⟨⟨_, _, rfl⟩, rfl⟩⟩, Nat.pow_pos (by decide)⟩, Below.refl _ _⟩
        case round =>
          obtain ⟨k, Q, z, rfl, hz, hk, hQ, hQ2, rq, hB⟩ := hrel
          have rN := rn.behind hB
          have h96 : (2 : Nat) ^ 71 < 65536 ^ 6 := by decide
          obtain ⟨qa, qc, rfl, hqc⟩ := rq.slice
          clear hqc
          generalize hql : (digs 65536 Q).length = lq at *
          clear hql
          by_cases hk0 : k = 0
          · subst hk0
            obtain rfl : z = -1 := by omega
            have hQR : Q = R := hQ.out
            subst hQR
            have hQ3 : 2 * Q + 1 < 65536 ^ 6 := by
              have h1 := hQ2.out
              rw [Nat.pow_zero] at h1
              have h2 : 2 * 2 ^ 71 + 1 < 65536 ^ 6 := by decide
              omega
            have HQ3 := Lib.hid hQ3
            have hmul := rmul_num rq rq (by omega) (by omega)
            have hydiv : (2 * y).tdiv 2 = y := Int.mul_tdiv_cancel_left _ (by decide)
            have hp := HP2.out
            have HYD := Lib.hid hydiv
            clear hQ hQ2 hQ3 h96 hydiv
            by_cases hm : Q * Q < N
            · skip
              have hc : cmpN (Q * Q) N = -1 := cmpN_lt hm
              rw [if_pos hm] at hp
              have HC := Lib.hid hc
              have HP3 := Lib.hid hp
              clear hc hp hm
              go_wp2_with fail
              refine hmul.mono ?_
              rintro e w5 ⟨v5, rfl, r5, b5⟩
              clear hmul
              replace rq := rq.behind b5
              replace rN := rN.behind b5
              replace hB := below_both hB b5
              clear b5
              go_wp2_with fail
              refine (rcmpc r5 rN (by omega) (by omega) HC.out).mono ?_
              rintro e w6 ⟨rfl, b5⟩
              replace rq := rq.behind b5
              replace hB := below_both hB b5
              clear b5 r5 rN
              go_wp2_with fail
              refine (rshl1 (k := 6) rq (by omega) (by have := HQ3.out; omega)).mono ?_
              rintro e w7 ⟨v7, rfl, r7, b5⟩
              replace hB := below_both hB b5
              clear b5 rq
              go_wp2_with fail
              refine (one6 _).mono ?_
              rintro e w8 ⟨v8, rfl, r8, b8⟩
              replace r7 := r7.behind b8
              replace hB := below_both hB b8
              clear b8
              go_wp2_with fail
              refine (raddk (k := 6) r7 r8 (by omega) (by omega) HQ3.out).mono ?_
              rintro e w9 ⟨v9, rfl, r9, b8⟩
              replace hB := below_both hB b8
              clear b8 r7
              go_wp2_with fail
              refine (one6 _).mono ?_
              rintro e wa ⟨va, rfl, ra, b8⟩
              replace r9 := r9.behind b8
              replace hB := below_both hB b8
              clear b8
              go_wp2_with fail
              refine (rround_num (neg := false) (mode := mode) r9 ra (by omega) (by decide) (by omega) (by omega) (by omega) (by omega) (by omega) (by omega)).mono ?_
              rintro e wb ⟨rfl, b8⟩
              rw [← HP3.out]
              go_wp2
              go_ret2
              exact ⟨rfl, below_both b2 (below_both hB b8)⟩
            · skip
              obtain ⟨c, hc, hc0⟩ : ∃ c, cmpN (Q * Q) N = c ∧ 0 ≤ c := by
                refine ⟨_, rfl, ?_⟩
                unfold cmpN
                rw [if_neg hm]
                split <;> omega
              rw [if_neg hm, Nat.add_zero] at hp
              have HC := Lib.hid hc
              have HP3 := Lib.hid hp
              clear hc hp hm
              go_wp2_with fail
              refine hmul.mono ?_
              rintro e w5 ⟨v5, rfl, r5, b5⟩
              clear hmul
              replace rq := rq.behind b5
              replace rN := rN.behind b5
              replace hB := below_both hB b5
              clear b5
              go_wp2_with fail
              refine (rcmpc r5 rN (by omega) (by omega) HC.out).mono ?_
              rintro e w6 ⟨rfl, b5⟩
              replace rq := rq.behind b5
              replace hB := below_both hB b5
              clear b5 r5 rN
              go_wp2_with fail
              refine (rshl1 (k := 6) rq (by omega) (by have := HQ3.out; omega)).mono ?_
              rintro e w7 ⟨v7, rfl, r7, b5⟩
              replace hB := below_both hB b5
              clear b5 rq
              go_wp2_with fail
              refine (one6 _).mono ?_
              rintro e wa ⟨va, rfl, ra, b8⟩
              replace r7 := r7.behind b8
              replace hB := below_both hB b8
              clear b8
              go_wp2_with fail
              refine (rround_num (neg := false) (mode := mode) r7 ra (by omega) (by decide) (by omega) (by omega) (by omega) (by omega) (by omega) (by omega)).mono ?_
              rintro e wb ⟨rfl, b8⟩
              rw [← HP3.out]
              go_wp2
              go_ret2
              exact ⟨rfl, below_both b2 (below_both hB b8)⟩
          · obtain ⟨k', rfl⟩ : ∃ k', k = k' + 1 := ⟨k - 1, by omega⟩
            obtain rfl : z = (k' : Int) := by omega
            have hT : Q + 2 ^ k' + 2 ^ k' ≤ 2 ^ 71 ∧ Q + 2 ^ k' < 65536 ^ 6 := by
              have h1 := hQ2.out
              rw [Nat.pow_succ] at h1
              exact ⟨by omega, by omega⟩
            have HT := Lib.hid hT
            clear hQ2 h96 hT
            by_cases hm : (Q + 2 ^ k') * (Q + 2 ^ k') ≤ N
            · skip
              obtain ⟨c, hc, hc0⟩ : ∃ c, cmpN ((Q + 2 ^ k') * (Q + 2 ^ k')) N = c ∧ c ≤ 0 := by
                refine ⟨_, rfl, ?_⟩
                unfold cmpN
                split
                · decide
                · rw [if_neg (by omega)]; decide
              have hq3 : rtF N k' (Q + 2 ^ k') = R := by
                have := hQ.out
                unfold rtF at this
                rwa [if_pos hm] at this
              have HC := Lib.hid hc
              have HQ3 := Lib.hid hq3
              clear hc hq3 hm
              go_wp2_with fail
              refine (one6 _).mono ?_
              rintro e w4 ⟨v4, rfl, r4, b4⟩
              replace rq := rq.behind b4
              replace rN := rN.behind b4
              replace hB := below_both hB b4
              clear b4
              go_wp2_with fail
              refine (rshl_num (m := k') r4 (by omega) (by omega)).mono ?_
              rintro e w5 ⟨v5, rfl, r5, b4⟩
              replace rq := rq.behind b4
              replace rN := rN.behind b4
              replace hB := below_both hB b4
              rw [Nat.one_mul] at r5
              clear b4 r4
              go_wp2_with fail
              refine (raddk (k := 6) rq r5 (by omega) (by omega) (by have := HT.out; omega)).mono ?_
              rintro e w6 ⟨v6, rfl, r7, b4⟩
              replace rq := rq.behind b4
              replace rN := rN.behind b4
              replace hB := below_both hB b4
              clear b4 r5
              go_wp2_with fail
              refine (rmul_num r7 r7 (by omega) (by omega)).mono ?_
              rintro e w8 ⟨v8, rfl, r8, b4⟩
              replace rq := rq.behind b4
              replace r7 := r7.behind b4
              replace rN := rN.behind b4
              replace hB := below_both hB b4
              clear b4
              go_wp2_with fail
              refine (rcmpc r8 rN (by omega) (by omega) HC.out).mono ?_
              rintro e w9 ⟨rfl, b4⟩
              replace rq := rq.behind b4
              replace r7 := r7.behind b4
              replace hB := below_both hB b4
              clear b4 r8 rN
              go_wp2
              go_roundw
              case rel => exact ⟨k', Q + 2 ^ k', _, rfl, by omega, by omega, Lib.hid HQ3.out, Lib.hid (by have := HT.out; omega), r7, hB⟩
              case measure => simp [intOf]
            · skip
              have hc : cmpN ((Q + 2 ^ k') * (Q + 2 ^ k')) N = 1 := cmpN_gt (by omega)
              have hq3 : rtF N k' Q = R := by
                have := hQ.out
                unfold rtF at this
                rwa [if_neg hm] at this
              have HC := Lib.hid hc
              have HQ3 := Lib.hid hq3
              clear hc hq3 hm
              go_wp2_with fail
              refine (one6 _).mono ?_
              rintro e w4 ⟨v4, rfl, r4, b4⟩
              replace rq := rq.behind b4
              replace rN := rN.behind b4
              replace hB := below_both hB b4
              clear b4
              go_wp2_with fail
              refine (rshl_num (m := k') r4 (by omega) (by omega)).mono ?_
              rintro e w5 ⟨v5, rfl, r5, b4⟩
              replace rq := rq.behind b4
              replace rN := rN.behind b4
              replace hB := below_both hB b4
              rw [Nat.one_mul] at r5
              clear b4 r4
              go_wp2_with fail
              refine (raddk (k := 6) rq r5 (by omega) (by omega) (by have := HT.out; omega)).mono ?_
              rintro e w6 ⟨v6, rfl, r7, b4⟩
              replace rq := rq.behind b4
              replace rN := rN.behind b4
              replace hB := below_both hB b4
              clear b4 r5
              go_wp2_with fail
              refine (rmul_num r7 r7 (by omega) (by omega)).mono ?_
              rintro e w8 ⟨v8, rfl, r8, b4⟩
              replace rq := rq.behind b4
              replace r7 := r7.behind b4
              replace rN := rN.behind b4
              replace hB := below_both hB b4
              clear b4
              go_wp2_with fail
              refine (rcmpc r8 rN (by omega) (by omega) HC.out).mono ?_
              rintro e w9 ⟨rfl, b4⟩
              replace rq := rq.behind b4
              replace r7 := r7.behind b4
              replace hB := below_both hB b4
              clear b4 r8 rN
              go_wp2
              go_roundw
              case rel => exact ⟨k', Q, _, rfl, by omega, by omega, Lib.hid HQ3.out, Lib.hid (Nat.le_trans (Nat.le_add_right _ _) HT.out.1), rq, hB⟩
              case measure => simp [intOf]
    · skip
      have HN := Lib.hid (hng _ hn)
      simp only [hn, reduceIte] at hP
      subst hP
      clear hx hng hn
      go_enter Try.func34, Try.ntmps34
      go_wp2_with fail
      refine (hA _).mono ?_
      rintro e w1 ⟨rfl, rfl⟩
      go_upto_if 24 with (fail)
      rw [HN.out]
      go_wp2
      go_ret2
      exact ⟨rfl, Below.refl _ _⟩
  · skip
    rw [hx] at hA
    simp only [hx, reduceIte, show ¬ (2 : Nat) = 0 from by decide, show ¬ (2 : Nat) = 3 from by decide] at hP
    cases hn : neg6 a
    · skip
      have HN := Lib.hid (hng _ hn)
      simp only [hn, Bool.false_eq_true, reduceIte] at hP
      subst hP
      clear hx hng hn
      go_enter Try.func34, Try.ntmps34
      go_wp2_with fail
      refine (hA _).mono ?_
      rintro e w1 ⟨rfl, rfl⟩
      go_upto_if 24 with (fail)
      rw [HN.out]
      go_wp2
      go_ret2
      exact ⟨rfl, Below.refl _ _⟩
    · skip
      have HN := Lib.hid (hng _ hn)
      simp only [hn, reduceIte] at hP
      subst hP
      clear hx hng hn
      go_enter Try.func34, Try.ntmps34
      go_wp2_with fail
      refine (hA _).mono ?_
      rintro e w1 ⟨rfl, rfl⟩
      go_upto_if 24 with (fail)
      rw [HN.out]
      go_wp2
      go_ret2
      exact ⟨rfl, Below.refl _ _⟩
  · skip
    rw [hx] at hA
    simp only [hx, reduceIte, show ¬ (3 : Nat) = 0 from by decide, show ¬ (3 : Nat) = 2 from by decide] at hP
    subst hP
    clear hx hng
    go_enter Try.func34, Try.ntmps34
    go_wp2_with fail
    refine (hA _).mono ?_
    rintro e w1 ⟨rfl, rfl⟩
    go_wp2
    go_ret2
    exact ⟨rfl, Below.refl _ _⟩
end Go.Proofs.Ytgobclmihppopaa
