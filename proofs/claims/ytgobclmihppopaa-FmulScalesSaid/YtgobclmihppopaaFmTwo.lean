/- vernierlaw08: FmulScales, FmulTwo. -/
import Derived.Test.YtgobclmihppopaaFmLaw
namespace Go.Proofs.Ytgobclmihppopaa
open Go.RowKit Go.Shelf
set_option maxRecDepth 100000 in
set_option maxHeartbeats 8000000 in
theorem fmulScales_calls {a : Nat} {n mode : Int} {w : World} (ha : (a : Int) ≤ 18446744073709551615) (n1 : -9223372036854775808 ≤ n) (n2 : n ≤ 9223372036854775807) :
    Calls Try.prog 9 #[.int .u64 (a : Int), .int .i64 n, .int .i64 mode] w fun e W' => e = .returned (.bool true) ∧ Below w.heap.size w W' := by
  have h1 := fun w => fmul_scale (mode := mode) (w := w) ha n1 n2
  have h5 := fun w => class6 (W := w) ha
  have hcE : min (max n (-8192)) 8192 = clampS n := rfl
  have hc1 : -8192 ≤ clampS n := by unfold clampS; omega
  have hc2 : clampS n ≤ 8192 := by unfold clampS; omega
  obtain ⟨P, hP⟩ : ∃ P, P = rscale a n mode := ⟨_, rfl⟩
  rw [← hP] at h1
  unfold rscale at hP
  by_cases c3 : cls a = 3
  · rw [c3] at h5
    rw [if_pos c3] at hP
    subst hP
    dsimp only at h1
    clear c3 hcE hc1 hc2
    go_enter Try.func9, Try.ntmps9
    go_wp2_with fail
    refine (malive _).mono ?_
    rintro e w1 ⟨rfl, b1⟩
    go_wp2_with fail
    refine (h1 _).mono ?_
    rintro e w2 ⟨rfl, b2⟩
    replace b1 := below_both b1 b2
    clear b2
    go_wp2_with fail
    refine (h5 _).mono ?_
    rintro e w3 ⟨rfl, rfl⟩
    go_wp2
    all_goals (go_ret; exact ⟨rfl, b1⟩)
  · rw [if_neg c3] at hP
    by_cases c1 : cls a = 1
    · rw [c1] at h5
      rw [if_neg (by omega)] at hP
      have hsp := fun w => split6 (W := w) ha
      have rx := xpo_range06 a
      have hs := sig_lt06 a
      have hp := sig_pos c1
      have HP := Lib.hid hP
      have HS := Lib.hid hs
      obtain ⟨x, f⟩ := P
      dsimp only at h1
      generalize clampS n = E at *
      generalize neg6 a = sa at *
      generalize sig a = ma at *
      generalize xpo a = xa at *
      clear c1 c3 hP hs
      go_enter Try.func9, Try.ntmps9
      go_wp2_with fail
      refine (malive _).mono ?_
      rintro e w1 ⟨rfl, b1⟩
      go_wp2_with fail
      refine (h1 _).mono ?_
      rintro e w2 ⟨rfl, b2⟩
      replace b1 := below_both b1 b2
      clear b2
      go_wp2_with fail
      refine (h5 _).mono ?_
      rintro e w3 ⟨rfl, rfl⟩
      go_wp2_with fail
      refine (hsp _).mono ?_
      rintro e w4 ⟨rfl, rfl⟩
      go_wp2_with fail
      refine (word6 HS.out).mono ?_
      rintro e w5 ⟨v5, rfl, r5, b2⟩
      replace b1 := below_both b1 b2
      clear b2
      go_wp2_with fail
      have b6 := (Below.refl w5.heap.size w5).alloc (Nat.le_refl _) (.cells #[.int .i64 1] 3)
      have r1 := rn_one w5 1 (by decide) (by decide)
      refine (rround_num (neg := sa) (mode := mode) (r5.behind b6) r1 hp (by decide) (by omega) (by omega) (by omega) (by omega) (by omega) (by omega)).mono ?_
      rintro e w7 ⟨rfl, b2⟩
      rw [← HP.out]
      replace b1 := below_both b1 (below_both b6 b2)
      clear b2 b6
      go_wp2
      all_goals (go_ret; exact ⟨rfl, b1⟩)
    · rw [if_pos c1] at hP
      subst hP
      dsimp only at h1
      have y1 : ¬ (cls a : Int) = 1 := by omega
      have y3 : ¬ (cls a : Int) = 3 := by omega
      generalize cls a = y at *
      clear c1 c3 hcE hc1 hc2
      go_enter Try.func9, Try.ntmps9
      go_wp2_with fail
      refine (malive _).mono ?_
      rintro e w1 ⟨rfl, b1⟩
      go_wp2_with fail
      refine (h1 _).mono ?_
      rintro e w2 ⟨rfl, b2⟩
      replace b1 := below_both b1 b2
      clear b2
      go_wp2_with fail
      refine (h5 _).mono ?_
      rintro e w3 ⟨rfl, rfl⟩
      go_wp2
      all_goals (go_ret; exact ⟨rfl, b1⟩)
set_option maxRecDepth 100000 in
set_option maxHeartbeats 8000000 in
theorem fmulTwo_calls {a : Nat} {n : Int} {w : World} (ha : (a : Int) ≤ 18446744073709551615) (n1 : -9223372036854775808 ≤ n) (n2 : n ≤ 9223372036854775807) :
    Calls Try.prog 10 #[.int .u64 (a : Int), .int .i64 n] w fun e W' => e = .returned (.bool true) ∧ Below w.heap.size w W' := by
  obtain ⟨r, hr⟩ : ∃ r, n.tmod 2000 = r := ⟨_, rfl⟩
  have r2 : r ≤ 2000 := by rw [← hr]; have := Int.tmod_lt_of_pos n (show (0 : Int) < 2000 by decide); omega
  have r1 : -2000 ≤ r := by rw [← hr]; have := Int.tmod_lt_of_pos (-n) (show (0 : Int) < 2000 by decide); rw [Int.neg_tmod] at this; omega
  have hx := rscale_lt (a := a) (n := r) (mode := 0) (by omega)
  have h1 := fun w => fmul_scale (n := r) (mode := 0) (w := w) ha (by omega) (by omega)
  have h5 := fun w => class6 (W := w) ha
  obtain ⟨P, hP⟩ : ∃ P, P = rscale a r 0 := ⟨_, rfl⟩
  rw [← hP] at h1 hx
  obtain ⟨x, f⟩ := P
  dsimp only at h1 hx
  have h2 := fun w => fmul_scale (a := x) (n := -r) (mode := 0) (w := w) (by omega) (by omega) (by omega)
  obtain ⟨Q, hQ⟩ : ∃ Q, Q = rscale x (-r) 0 := ⟨_, rfl⟩
  rw [← hQ] at h2
  obtain ⟨y, g⟩ := Q
  dsimp only at h2
  have key : f = 0 → y = a ∨ cls a = 3 := by
    intro hf
    subst hf
    by_cases c3 : cls a = 3
    · exact .inr c3
    · by_cases c1 : cls a = 1
      · have := rscale_back (by omega) c1 r1 r2 hP.symm
        rw [this] at hQ
        exact .inl (congrArg Prod.fst hQ)
      · have e : rscale a r 0 = (a, 0) := by unfold rscale; rw [if_neg c3, if_pos c1]
        rw [e] at hP
        obtain rfl : x = a := congrArg Prod.fst hP
        have e2 : rscale x (-r) 0 = (x, 0) := by unfold rscale; rw [if_neg c3, if_pos c1]
        rw [e2] at hQ
        exact .inl (congrArg Prod.fst hQ)
  have HR := Lib.hid hr
  clear hP hQ hr hx
  by_cases hf : f = 0
  · subst hf
    rcases key rfl with k | k
    · subst k
      clear key
      go_enter Try.func10, Try.ntmps10
      go_wp2_with fail
      refine (malive _).mono ?_
      rintro e w1 ⟨rfl, b1⟩
      go_wp2_with fail
      rw [HR.out]
      refine (h1 _).mono ?_
      rintro e w2 ⟨rfl, b2⟩
      replace b1 := below_both b1 b2
      clear b2
      go_wp2_with fail
      refine (h2 _).mono ?_
      rintro e w3 ⟨rfl, b2⟩
      replace b1 := below_both b1 b2
      clear b2
      go_wp2
      all_goals (go_ret; exact ⟨by first | rfl | simp, b1⟩)
    · rw [k] at h5
      clear key k
      by_cases hg : ¬ g = 0
      · have hgi : ¬ (g : Int) = 0 := by omega
        clear hg
        go_enter Try.func10, Try.ntmps10
        go_wp2_with fail
        refine (malive _).mono ?_
        rintro e w1 ⟨rfl, b1⟩
        go_wp2_with fail
        rw [HR.out]
        refine (h1 _).mono ?_
        rintro e w2 ⟨rfl, b2⟩
        replace b1 := below_both b1 b2
        clear b2
        go_wp2_with fail
        refine (h2 _).mono ?_
        rintro e w3 ⟨rfl, b2⟩
        replace b1 := below_both b1 b2
        clear b2
        go_wp2
        all_goals (go_ret; exact ⟨rfl, b1⟩)
      · by_cases hy : y = a
        · subst hy
          have hg0 : g = 0 := by omega
          subst hg0
          clear hg
          go_enter Try.func10, Try.ntmps10
          go_wp2_with fail
          refine (malive _).mono ?_
          rintro e w1 ⟨rfl, b1⟩
          go_wp2_with fail
          rw [HR.out]
          refine (h1 _).mono ?_
          rintro e w2 ⟨rfl, b2⟩
          replace b1 := below_both b1 b2
          clear b2
          go_wp2_with fail
          refine (h2 _).mono ?_
          rintro e w3 ⟨rfl, b2⟩
          replace b1 := below_both b1 b2
          clear b2
          go_wp2
          all_goals (go_ret; exact ⟨rfl, b1⟩)
        · have hyi : ¬ (y : Int) = (a : Int) := by omega
          have hg0 : g = 0 := by omega
          subst hg0
          clear hy hg
          go_enter Try.func10, Try.ntmps10
          go_wp2_with fail
          refine (malive _).mono ?_
          rintro e w1 ⟨rfl, b1⟩
          go_wp2_with fail
          rw [HR.out]
          refine (h1 _).mono ?_
          rintro e w2 ⟨rfl, b2⟩
          replace b1 := below_both b1 b2
          clear b2
          go_wp2_with fail
          refine (h2 _).mono ?_
          rintro e w3 ⟨rfl, b2⟩
          replace b1 := below_both b1 b2
          clear b2
          go_wp2_with fail
          refine (h5 _).mono ?_
          rintro e w4 ⟨rfl, rfl⟩
          go_wp2
          all_goals (go_ret; exact ⟨rfl, b1⟩)
  · have hfi : ¬ (f : Int) = 0 := by omega
    clear key hf
    go_enter Try.func10, Try.ntmps10
    go_wp2_with fail
    refine (malive _).mono ?_
    rintro e w1 ⟨rfl, b1⟩
    go_wp2_with fail
    rw [HR.out]
    refine (h1 _).mono ?_
    rintro e w2 ⟨rfl, b2⟩
    replace b1 := below_both b1 b2
    clear b2
    go_wp2_with fail
    refine (h2 _).mono ?_
    rintro e w3 ⟨rfl, b2⟩
    replace b1 := below_both b1 b2
    clear b2
    go_wp2
    all_goals (go_ret; exact ⟨rfl, b1⟩)
end Go.Proofs.Ytgobclmihppopaa
