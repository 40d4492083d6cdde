/- vernierlaw13: alive, whole. -/
import Derived.Test.YtgobclmihppopabFvSpec
import Derived.Deep.DeepCutAuto
import Derived.Deep.CutBlock
namespace Go.Proofs.Ytgobclmihppopab
open Go.RowKit Go.Shelf
theorem valive (w : World) : Calls Try.prog 33 #[] w fun e W' => e = .returned (.bool true) ∧ Below w.heap.size w W' := by
  have h := fconv_toInt (a := 4612811918334230528) (mode := 0) (w := w) (by omega)
  have e1 : toIntB 4612811918334230528 0 = (2, 16) := by decide
  rw [e1] at h
  go_enter Try.func33, Try.ntmps33
  go_wp2_with fail
  refine Calls.mono h ?_
  rintro e w1 ⟨rfl, b1⟩
  go_wp2
  go_ret
  exact ⟨rfl, b1⟩
theorem RN.first {w : World} {v : Value} {N k : Nat} (h : RN w v N k) (h0 : N ≠ 0) : ∃ S off cap, v = .slice (some ⟨S, off, none⟩) (digs 65536 N).length cap ∧ w.cell? ⟨S, off, none⟩ = some (.int .i64 ((N % 65536 : Nat) : Int)) ∧ S < w.heap.size ∧ 0 < (digs 65536 N).length := by
  obtain ⟨⟨S, h1, h2⟩, _⟩ := h
  have e := digs_pos (B := 65536) (by decide) h0
  have hl : 0 < (digs 65536 N).length := by rw [e]; simp
  obtain ⟨a, cap, rfl, hc, hs⟩ := h2.slice
  obtain ⟨off, rfl⟩ := hs hl
  have hcell := h2.cell hl
  rw [Nat.add_zero, lim_digs (by decide), Nat.pow_zero, Nat.div_one] at hcell
  exact ⟨S, off, cap, rfl, hcell, h1, hl⟩
theorem RN.none {w : World} {v : Value} {k : Nat} (h : RN w v 0 k) : ∃ a cap, v = .slice a 0 cap := by
  obtain ⟨a, cap, rfl, _⟩ := h.slice
  rw [digs_zero]
  exact ⟨a, cap, rfl⟩
set_option maxRecDepth 100000 in
set_option maxHeartbeats 8000000 in
theorem whole13 {a : Nat} {mode : Int} {w : World} (ha : (a : Int) ≤ 18446744073709551615) :
    Calls Try.prog 41 #[.int .u64 (a : Int), .int .i64 mode] w fun e W' => ∃ v, e = .returned (.tuple #[v, .bool (woA a)]) ∧ RN W' v (wqA a mode) 80 ∧ Below w.heap.size w W' := by
  have hs := fun w => split6 (W := w) ha
  have l1 := sig_lt06 a
  have x1 := xpo_range06 a
  have hsl : sig a < 9007199254740992 := by
    have := ff_lt a
    unfold sig; split <;> omega
  unfold wqA woA wq wo
  generalize neg6 a = neg at *
  generalize sig a = m at *
  generalize xpo a = x at *
  by_cases hx : 0 ≤ x
  · rw [if_pos hx, decide_eq_false (by omega), Bool.false_and]
    obtain ⟨k, rfl⟩ : ∃ k : Nat, x = k := ⟨x.toNat, by omega⟩
    rw [Int.toNat_natCast]
    have hk : k ≤ 972 := by omega
    clear hx x1
    go_enter Try.func41, Try.ntmps41
    go_wp2_with fail
    refine (hs _).mono ?_
    rintro e w1 ⟨rfl, rfl⟩
    clear hs
    go_wp2_with fail
    refine (word6 l1).mono ?_
    rintro e w1 ⟨v1, rfl, r1, b1⟩
    go_wp2_with fail
    refine (rshl_num (m := k) r1 (by omega) (by omega)).mono ?_
    rintro e w2 ⟨v2, rfl, r2, b2⟩
    replace b1 := below_both b1 b2
    go_wp2
    go_ret2
    exact ⟨_, rfl, r2.le (by omega), b1⟩
  · rw [if_neg hx, decide_eq_true (by omega : x < 0), Bool.true_and]
    obtain ⟨k, hxk⟩ : ∃ k : Nat, -x = (k : Int) := ⟨(-x).toNat, by omega⟩
    rw [hxk, Int.toNat_natCast]
    have hk : k ≤ 1074 := by omega
    have d0 : decide (0 ≤ x) = false := decide_eq_false hx
    have hp : 0 < 2 ^ k := Nat.two_pow_pos k
    have hdm := Nat.div_add_mod m (2 ^ k)
    have hrl : m % 2 ^ k < 2 ^ k := Nat.mod_lt _ hp
    have hql : m / 2 ^ k ≤ m := Nat.div_le_self _ _
    rw [Nat.mul_comm] at hdm
    obtain ⟨q, hq⟩ : ∃ q, q = m / 2 ^ k := ⟨_, rfl⟩
    obtain ⟨r, hr⟩ : ∃ r, r = m % 2 ^ k := ⟨_, rfl⟩
    rw [← hq, ← hr] at hdm
    rw [← hr] at hrl
    rw [← hq] at hql
    rw [← hq, ← hr]
    have hL : ∀ L : Nat, L = (digs 65536 r).length → decide (0 < (L : Int)) = decide (r ≠ 0) := by
      rintro L rfl
      have := digs_some r
      rw [← this]
      exact decide_eq_decide.2 (by omega)
    have HL := Lib.hid hL
    clear hL
    generalize decide (r ≠ 0) = inx at *
    have hC3 := cmpN_three (2 * r) (2 ^ k)
    obtain ⟨c, hc⟩ : ∃ c, cmpN (2 * r) (2 ^ k) = c := ⟨_, rfl⟩
    rw [hc] at hC3 ⊢
    obtain ⟨Q, hQ⟩ : ∃ Q, Q = (if rup neg mode q inx c then q + 1 else q) := ⟨_, rfl⟩
    rw [← hQ]
    have HQQ := Lib.hid hQ
    clear hQ
    have HQ := Lib.hid hq
    have HC := Lib.hid hc
    have HC3 := Lib.hid hC3
    have HDM := Lib.hid hdm
    have HRL := Lib.hid hrl
    have HMP : Hid (m < 65536 ^ 4) := Lib.hid (by have : (65536 : Nat) ^ 4 = 18446744073709551616 := rfl; omega)
    clear hC3 hc hq hr hdm hrl hp hx x1
    go_enter Try.func41, Try.ntmps41
    go_wp2_with fail
    refine (hs _).mono ?_
    rintro e w1 ⟨rfl, rfl⟩
    clear hs
    go_wp2_with fail
    refine (word6 l1).mono ?_
    rintro e w1 ⟨v1, rfl, r1, b1⟩
    go_wp2_with fail
    refine (rshr_num (m := k) r1 (by omega) (by omega)).mono ?_
    rintro e w2 ⟨v2, rfl, r2, b2⟩
    rw [← HQ.out] at r2
    replace b1 := below_both b1 b2
    replace r1 := r1.behind b2
    clear b2
    go_wp2_with fail
    refine (rshl_num (m := k) r2 (by omega) (by omega)).mono ?_
    rintro e w3 ⟨v3, rfl, r3, b2⟩
    replace b1 := below_both b1 b2
    replace r1 := r1.behind b2
    replace r2 := r2.behind b2
    clear b2
    go_wp2_with fail
    refine (rsubk (k := 4) r1 r3 (by omega) (by omega) (by have := HDM.out; omega) (by have := HMP.out; omega)).mono ?_
    rintro e w4 ⟨v4, rfl, r4, b2⟩
    replace b1 := below_both b1 b2
    replace r2 := r2.behind b2
    clear b2 r1 r3
    replace r4 : RN w4 v4 r 4 := by
      have e : m - q * 2 ^ k = r := by have := HDM.out; omega
      rw [e] at r4; exact r4
    go_wp2_with fail
    refine (rshl1 (k := 5) r4 (by omega) (by have := r4.2; rw [Nat.pow_succ]; omega)).mono ?_
    rintro e w5 ⟨v5, rfl, r5, b2⟩
    replace b1 := below_both b1 b2
    replace r2 := r2.behind b2
    replace r4 := r4.behind b2
    clear b2
    go_wp2_with fail
    have r6 : RN (w5.alloc (.cells #[.int .i64 1] 3)) (.slice (some ⟨w5.heap.size, 0, none⟩) 1 1) 1 1 := rn_one w5 1 (by decide) (by decide)
    have bb := (Below.refl w5.heap.size w5).alloc (Nat.le_refl _) (.cells #[.int .i64 1] 3)
    replace r2 := r2.behind bb
    replace r4 := r4.behind bb
    replace r5 := r5.behind bb
    replace b1 := below_both b1 bb
    refine (rshl_num (m := k) r6 (by omega) (by omega)).mono ?_
    rintro e w7 ⟨v7, rfl, r7, b2⟩
    replace b1 := below_both b1 b2
    replace r2 := r2.behind b2
    replace r4 := r4.behind b2
    replace r5 := r5.behind b2
    rw [Nat.one_mul] at r7
    clear b2 bb r6
    go_wp2_with fail
    refine (rcmpc r5 r7 (by omega) (by omega) HC.out).mono ?_
    rintro e w8 ⟨rfl, b2⟩
    replace b1 := below_both b1 b2
    replace r2 := r2.behind b2
    replace r4 := r4.behind b2
    clear b2 r5 r7
    obtain ⟨xa, xc, rfl, hxc⟩ := r4.slice
    have hL := HL.out _ rfl
    generalize (digs 65536 r).length = L at *
    clear HL
    have HLL : Hid ((inx = false ∧ L = 0) ∨ (inx = true ∧ (0 : Int) < (L : Int))) := Lib.hid (by
      cases inx
      · have := of_decide_eq_false hL; exact .inl ⟨rfl, by omega⟩
      · exact .inr ⟨rfl, of_decide_eq_true hL⟩)
    have hqp : (q : Int) ≤ 9007199254740991 := by omega
    clear hL hxc r4 HRL HDM HMP HQ HC hsl l1 hql
    go_upto_block 0 with (fail)
    go_cut [13] from 46 to 86 (fun u wx => u = .bool (rup neg mode q inx c) ∧ wx = w8)
    case first =>
      have hc3 := HC3.out
      by_cases m1 : mode = 1
      · subst m1
        rcases hc3 with rfl | rfl | rfl
        · go_wp2_with fail
          go_meet
          case rel => exact ⟨by simp [rup], rfl⟩
        · go_wp2_with fail
          go_meet
          case rel => exact ⟨by simp [rup], rfl⟩
        · go_wp2_with fail
          go_meet
          case rel => exact ⟨by simp [rup], rfl⟩
      by_cases m2 : mode = 2
      · subst m2
        go_wp2_with fail
        go_meet
        case rel => exact ⟨by simp [rup], rfl⟩
      by_cases m3 : mode = 3
      · subst m3
        rcases HLL.out with ⟨rfl, rfl⟩ | ⟨rfl, hl0⟩
        · go_wp2_with fail
          go_meet
          case rel => exact ⟨by simp [rup], rfl⟩
        · cases neg
          · go_wp2_with fail
            go_meet
            case rel => exact ⟨by simp [rup], rfl⟩
          · go_wp2_with fail
            go_meet
            case rel => exact ⟨by simp [rup], rfl⟩
      by_cases m4 : mode = 4
      · subst m4
        rcases HLL.out with ⟨rfl, rfl⟩ | ⟨rfl, hl0⟩
        · go_wp2_with fail
          go_meet
          case rel => exact ⟨by simp [rup], rfl⟩
        · cases neg
          · go_wp2_with fail
            go_meet
            case rel => exact ⟨by simp [rup], rfl⟩
          · go_wp2_with fail
            go_meet
            case rel => exact ⟨by simp [rup], rfl⟩
      have hm : ∀ h, rup neg mode q inx h = (decide (0 < h) || (decide (h = 0) && decide (q % 2 = 1))) := fun h => by unfold rup; rw [if_neg m1, if_neg m2, if_neg m3, if_neg m4]
      have b1 : (mode == 1) = false := by simp [m1]
      have b2 : (mode == 2) = false := by simp [m2]
      have b3 : (mode == 3) = false := by simp [m3]
      have b4 : (mode == 4) = false := by simp [m4]
      clear m1 m2 m3 m4
      rcases hc3 with rfl | rfl | rfl
      · go_wp2_with fail
        go_meet
        case rel => exact ⟨by rw [hm]; rfl, rfl⟩
      · by_cases h0 : q = 0
        · subst h0
          obtain ⟨xq, xk, rfl⟩ := r2.none
          go_wp2_with fail
          go_meet
          case rel => exact ⟨by rw [hm]; rfl, rfl⟩
        · obtain ⟨S, off, cap, rfl, hcell, _, hlen⟩ := r2.first h0
          have hlen' : decide (0 < ((digs 65536 q).length : Int)) = true := decide_eq_true (by omega)
          have hidx : (0 : Int) < ((digs 65536 q).length : Int) := by omega
          have hp : q % 2 = 0 ∨ q % 2 = 1 := by omega
          have hm2 : ((q % 65536 : Nat) : Int) % 2 = ((q % 2 : Nat) : Int) := by omega
          generalize (digs 65536 q).length = M at *
          generalize q % 65536 = z at *
          clear h0
          rcases hp with hp | hp
          · rw [hp] at hm2
            go_wp2_with fail
            go_meet
            case rel => exact ⟨by rw [hm]; simp [hp], rfl⟩
          · rw [hp] at hm2
            go_wp2_with fail
            go_meet
            case rel => exact ⟨by rw [hm]; simp [hp], rfl⟩
      · go_wp2_with fail
        go_meet
        case rel => exact ⟨by rw [hm]; rfl, rfl⟩
    case rest =>
      obtain ⟨rfl, hW⟩ := hcut
      cases hW
      obtain ⟨up, hup⟩ : ∃ up, rup neg mode q inx c = up := ⟨_, rfl⟩
      have hQ := HQQ.out
      rw [hup] at hQ ⊢
      clear hup HQQ
      have HP4 : Hid (q + 1 < 65536 ^ 4) := Lib.hid (by have : (65536 : Nat) ^ 4 = 18446744073709551616 := rfl; omega)
      cases up
      · rw [if_neg Bool.false_ne_true] at hQ
        subst hQ
        rcases HLL.out with ⟨rfl, rfl⟩ | ⟨rfl, hl0⟩
        all_goals
          go_wp2
          go_ret2
          exact ⟨_, by first | rfl | (simp; omega), r2.le (by omega), b1⟩
      · rw [if_pos rfl] at hQ
        subst hQ
        go_wp2_with fail
        have r6 : RN (w8.alloc (.cells #[.int .i64 1] 3)) (.slice (some ⟨w8.heap.size, 0, none⟩) 1 1) 1 1 := rn_one w8 1 (by decide) (by decide)
        have bb := (Below.refl w8.heap.size w8).alloc (Nat.le_refl _) (.cells #[.int .i64 1] 3)
        replace r2 := r2.behind bb
        replace b1 := below_both b1 bb
        refine (raddk (k := 4) r2 r6 (by omega) (by omega) HP4.out).mono ?_
        rintro e w9 ⟨v9, rfl, r9, b2⟩
        replace b1 := below_both b1 b2
        rcases HLL.out with ⟨rfl, rfl⟩ | ⟨rfl, hl0⟩
        all_goals
          go_wp2
          go_ret2
          exact ⟨_, by first | rfl | (simp; omega), r9.le (by omega), b1⟩
end Go.Proofs.Ytgobclmihppopab
