/- vernierlaw13.FconvWhole, walked. -/
import Derived.Test.YtgobclmihppopabFvWhole
namespace Go.Proofs.Ytgobclmihppopab
open Go.RowKit Go.Shelf
theorem rshl62 {va : Value} {w : World} (hA : RN w va 1 1) :
    Calls Try.prog 44 #[va, .int .i64 62] w fun e W' => ∃ v, e = .returned v ∧ RN W' v 4611686018427387904 5 ∧ Below w.heap.size w W' :=
  (rshl_num (m := 62) hA (by decide) (by decide)).mono fun _ _ ⟨v, he, hr, hb⟩ => ⟨v, he, by simpa using hr, hb⟩
theorem digs_one {q : Nat} (h0 : q ≠ 0) (h : q < 18446744073709551616) : digs 18446744073709551616 q = [q] := by
  rw [digs_pos (by decide) h0, Nat.mod_eq_of_lt h, Nat.div_eq_of_lt h, digs_zero]
set_option maxRecDepth 100000 in
set_option maxHeartbeats 8000000 in
theorem fconvWhole_calls {a : Nat} {mode : Int} {w : World} (ha : (a : Int) ≤ 18446744073709551615) :
    Calls Try.prog 12 #[.int .u64 (a : Int), .int .i64 mode] w fun e W' => e = .returned (.bool true) ∧ Below w.heap.size w W' := by
  have hw := fun w => fconv_whole (mode := mode) (w := w) ha
  have ht := fun w => fconv_toInt (mode := mode) (w := w) ha
  have hc := fun w => class6 (W := w) ha
  have hcl := cls_le a
  unfold wholeB at hw
  unfold toIntB at ht
  by_cases h1 : cls a ≤ 1
  · have hwh := fun w => whole13 (mode := mode) (w := w) ha
    obtain ⟨n1, n2, n3, n4, n5⟩ := wbits_is (mode := mode) (by omega : a < 18446744073709551616) h1
    rw [if_neg (by omega), if_neg (by omega)] at hw
    rw [if_neg (by omega)] at ht
    have d1 : decide ((1 : Int) < (cls a : Int)) = false := decide_eq_false (by omega)
    generalize wbits (neg6 a) (wqA a mode) = X at *
    have hs := fun w => split6 (a := X) (W := w) (by omega)
    have l1 := sig_lt06 X
    rw [n1] at hs
    have hng : decide ((9223372036854775808 : Int) ≤ (a : Int)) = neg6 a := rfl
    obtain ⟨fl, hfl⟩ : ∃ fl, wflag a = fl := ⟨_, rfl⟩
    have hfl2 : (woA a = true ∧ fl = 16) ∨ (woA a = false ∧ fl = 0) := by
      rw [← hfl]; unfold wflag
      cases woA a
      · exact .inr ⟨rfl, rfl⟩
      · exact .inl ⟨rfl, rfl⟩
    rw [hfl] at hw ht
    -- what both numbers are
    obtain ⟨T, hT⟩ : ∃ T : Int × Nat, T = (if 4611686018427387904 < wqA a mode then ((0, 1) : Int × Nat) else (sv (neg6 a) (wqA a mode), fl)) := ⟨_, rfl⟩
    rw [← hT] at ht
    obtain ⟨d, hd⟩ : ∃ d : Nat, xpo X - min (xpo X) 0 = d := ⟨(xpo X - min (xpo X) 0).toNat, by omega⟩
    obtain ⟨g, hg⟩ : ∃ g : Nat, -min (xpo X) 0 = g := ⟨(-min (xpo X) 0).toNat, by omega⟩
    rw [hd, hg] at n5
    simp only [Int.toNat_natCast] at n5
    have hd' : d ≤ 2000 := by omega
    have hg' : g ≤ 2000 := by omega
    obtain ⟨low, hlow⟩ : ∃ low, min (xpo X) 0 = low := ⟨_, rfl⟩
    rw [hlow] at hd hg
    have hC : cmpN (sig X * 2 ^ d) (wqA a mode * 2 ^ g) = 0 := by rw [n5]; exact cmpN_self _
    have hxr : -1074 ≤ xpo X ∧ xpo X ≤ 971 := ⟨n3, n4⟩
    have hlr : -1074 ≤ low ∧ low ≤ 0 := by omega
    have HLOW := Lib.hid hlow
    have HD := Lib.hid hd
    have HG := Lib.hid hg
    have HC := Lib.hid hC
    have HT := Lib.hid hT
    clear h1 hcl n1 n3 n4 n5 hfl hd hg hlow hC hT
    generalize sig X = m at *
    generalize xpo X = p at *
    generalize cls a = c at *
    generalize woA a = other at *
    generalize neg6 a = ng at *
    generalize wqA a mode = q at *
    obtain ⟨T1, T2⟩ := T
    dsimp only at ht hw
    go_enter Try.func12, Try.ntmps12
    go_wp2_with fail
    refine (valive _).mono ?_
    rintro e w1 ⟨rfl, b1⟩
    go_wp2_with fail
    refine (hw _).mono ?_
    rintro e w2 ⟨rfl, b2⟩
    replace b1 := below_both b1 b2
    clear b2
    go_wp2_with fail
    refine (ht _).mono ?_
    rintro e w2 ⟨rfl, b2⟩
    replace b1 := below_both b1 b2
    clear b2
    go_wp2_with fail
    refine (hc _).mono ?_
    rintro e w2 ⟨rfl, rfl⟩
    clear hw ht hc
    go_wp2_with fail
    refine (hwh _).mono ?_
    rintro e w2 ⟨vq, rfl, rq, b2⟩
    replace b1 := below_both b1 b2
    clear b2 hwh
    have hfl3 : (other = true ∧ fl = 16) ∨ (other = false ∧ fl = 0) := hfl2
    clear hfl2
    rcases hfl3 with ⟨rfl, rfl⟩ | ⟨rfl, rfl⟩
    all_goals
      go_wp2_with fail
      refine (hs _).mono ?_
      rintro e w3 ⟨rfl, rfl⟩
      go_wp2_with fail
      rw [HLOW.out]
      refine (word6 l1).mono ?_
      rintro e w3 ⟨v3, rfl, r3, b2⟩
      replace b1 := below_both b1 b2
      replace rq := rq.behind b2
      clear b2
      go_wp2_with fail
      rw [HD.out]
      refine (rshl_num (m := d) r3 (by omega) (by omega)).mono ?_
      rintro e w4 ⟨v4, rfl, r4, b2⟩
      replace b1 := below_both b1 b2
      replace rq := rq.behind b2
      clear b2 r3
      go_wp2_with fail
      rw [HG.out]
      refine (rshl_num (m := g) rq (by omega) (by omega)).mono ?_
      rintro e w5 ⟨v5, rfl, r5, b2⟩
      replace b1 := below_both b1 b2
      replace rq := rq.behind b2
      replace r4 := r4.behind b2
      clear b2
      go_wp2_with fail
      refine (rcmpc r4 r5 (by omega) (by omega) HC.out).mono ?_
      rintro e w6 ⟨rfl, b2⟩
      replace b1 := below_both b1 b2
      replace rq := rq.behind b2
      clear b2 r4 r5
      go_wp2_with fail
      have r6 : RN (w6.alloc (.cells #[.int .i64 1] 3)) (.slice (some ⟨w6.heap.size, 0, none⟩) 1 1) 1 1 := rn_one w6 1 (by decide) (by decide)
      have bb := (Below.refl w6.heap.size w6).alloc (Nat.le_refl _) (.cells #[.int .i64 1] 3)
      replace rq := rq.behind bb
      replace b1 := below_both b1 bb
      clear bb
      refine (rshl62 r6).mono ?_
      rintro e w7 ⟨v7, rfl, r7, b2⟩
      replace b1 := below_both b1 b2
      replace rq := rq.behind b2
      clear b2 r6
      by_cases hq : 4611686018427387904 < q
      · have hT := HT.out
        rw [if_pos hq] at hT
        simp only [Prod.mk.injEq] at hT
        obtain ⟨rfl, rfl⟩ := hT
        have hc2 : Hid (cmpN q 4611686018427387904 = 1) := Lib.hid (cmpN_gt hq)
        clear hq HT
        go_wp2_with fail
        refine (rcmpc rq r7 (by omega) (by omega) hc2.out).mono ?_
        rintro e w8 ⟨rfl, b2⟩
        replace b1 := below_both b1 b2
        go_wp2
        go_ret
        exact ⟨rfl, b1⟩
      · have hT := HT.out
        rw [if_neg hq] at hT
        simp only [Prod.mk.injEq] at hT
        obtain ⟨hz, rfl⟩ := hT
        have hz0 : q = 0 → T1 = 0 := by rintro rfl; rw [hz]; cases ng <;> rfl
        have hzf : ng = false → T1 = (q : Int) := by rintro rfl; exact hz
        have hzt : ng = true → T1 = -(q : Int) := by rintro rfl; exact hz
        have HZ0 := Lib.hid hz0
        have HZF := Lib.hid hzf
        have HZT := Lib.hid hzt
        clear hz hz0 hzf hzt
        obtain ⟨c2, hc2, hc3⟩ : ∃ c2 : Int, cmpN q 4611686018427387904 = c2 ∧ (c2 = 0 ∨ c2 = -1) := by
          refine ⟨_, rfl, ?_⟩
          rcases Nat.lt_or_ge q 4611686018427387904 with h | h
          · exact .inr (cmpN_lt h)
          · left; rw [show q = 4611686018427387904 by omega]; exact cmpN_self _
        have HC2 := Lib.hid hc2
        have hq' : (q : Int) ≤ 4611686018427387904 := by omega
        clear hq HT hc2
        go_wp2_with fail
        refine (rcmpc rq r7 (by omega) (by omega) HC2.out).mono ?_
        rintro e w8 ⟨rfl, b2⟩
        replace b1 := below_both b1 b2
        replace rq := rq.behind b2
        clear b2 HC2 r7
        rcases hc3 with rfl | rfl
        all_goals
          go_wp2_with fail
          refine (limbs_num rq (by omega)).mono ?_
          rintro e w9 ⟨v9, rfl, hnew, b2⟩
          replace b1 := below_both b1 b2
          clear b2 rq
          obtain ⟨S, hR, hS, _⟩ := hnew
          obtain ⟨xa, cap, rfl, hcap, hsome⟩ := hR.slice
          by_cases h0 : q = 0
          · subst h0
            obtain rfl := HZ0.out rfl
            rw [digs_zero] at *
            clear HZ0 HZF HZT
            cases ng
            · go_wp2
              go_ret
              exact ⟨rfl, b1⟩
            · go_wp2
              go_ret
              exact ⟨rfl, b1⟩
          · have hdg := digs_one h0 (by omega)
            obtain ⟨off, rfl⟩ := hsome (by rw [hdg]; exact Nat.one_pos)
            rw [hdg] at hR
            have k0 : w9.cell? ⟨S, off, none⟩ = some (.int .u64 (q : Int)) := hR.cell (j := 0) Nat.one_pos
            rw [hdg]
            simp only [List.length_cons, List.length_nil]
            clear hcap hsome hR hdg
            cases ng
            · obtain rfl := HZF.out rfl
              clear HZ0 HZF HZT
              go_wp2
              go_ret
              exact ⟨rfl, b1⟩
            · obtain rfl := HZT.out rfl
              clear HZ0 HZF HZT
              go_wp2
              go_ret
              exact ⟨rfl, b1⟩
  · have d1 : decide ((1 : Int) < (cls a : Int)) = true := decide_eq_true (by omega)
    rw [if_pos (by omega)] at ht
    by_cases h3 : cls a = 3
    · rw [if_pos h3] at hw
      rw [h3] at hc
      clear h1 h3 hcl d1
      go_enter Try.func12, Try.ntmps12
      go_wp2_with fail
      refine (valive _).mono ?_
      rintro e w1 ⟨rfl, b1⟩
      go_wp2_with fail
      refine (hw _).mono ?_
      rintro e w2 ⟨rfl, b2⟩
      replace b1 := below_both b1 b2
      clear b2
      go_wp2_with fail
      refine (ht _).mono ?_
      rintro e w2 ⟨rfl, b2⟩
      replace b1 := below_both b1 b2
      clear b2
      go_wp2_with fail
      refine (hc _).mono ?_
      rintro e w2 ⟨rfl, rfl⟩
      clear hw ht hc
      go_wp2
      go_ret
      exact ⟨rfl, b1⟩
    · have h2 : cls a = 2 := by omega
      rw [if_neg h3, if_pos h2] at hw
      rw [h2] at hc
      clear h1 h2 h3 hcl d1
      go_enter Try.func12, Try.ntmps12
      go_wp2_with fail
      refine (valive _).mono ?_
      rintro e w1 ⟨rfl, b1⟩
      go_wp2_with fail
      refine (hw _).mono ?_
      rintro e w2 ⟨rfl, b2⟩
      replace b1 := below_both b1 b2
      clear b2
      go_wp2_with fail
      refine (ht _).mono ?_
      rintro e w2 ⟨rfl, b2⟩
      replace b1 := below_both b1 b2
      clear b2
      go_wp2_with fail
      refine (hc _).mono ?_
      rintro e w2 ⟨rfl, rfl⟩
      clear hw ht hc
      go_wp2
      go_ret
      exact ⟨rfl, b1⟩
end Go.Proofs.Ytgobclmihppopab
