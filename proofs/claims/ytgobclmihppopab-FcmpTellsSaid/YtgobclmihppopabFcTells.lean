/- vernierlaw12.FcmpTells, walked. -/
import Derived.Test.YtgobclmihppopabFcLaw
namespace Go.Proofs.Ytgobclmihppopab
open Go.RowKit Go.Shelf
set_option maxRecDepth 100000 in
set_option maxHeartbeats 4000000 in
theorem fcmpTells_calls {a b : Nat} {w : World} (ha : (a : Int) ≤ 18446744073709551615) (hb : (b : Int) ≤ 18446744073709551615) :
    Calls Try.prog 8 #[.int .u64 (a : Int), .int .u64 (b : Int)] w fun e W' => e = .returned (.bool true) ∧ Below w.heap.size w W' := by
  have h1 := fcmp_cmp (w := w) ha hb
  have h2 := fun w => fcmp_less (w := w) ha hb
  have hca := fun w => class6 (W := w) ha
  have hcb := fun w => class6 (W := w) hb
  have na := isNum_cls a
  have nb := isNum_cls b
  unfold kcmp at h1
  unfold kless at h2
  by_cases hn : isNum a = true ∧ isNum b = true
  · have hor := fun w => order12 (w := w) ha hb hn.1 hn.2
    rw [hn.1, hn.2, Bool.and_self, if_pos rfl] at h1
    rw [hn.1, hn.2, Bool.and_self, Bool.true_and] at h2
    have da : ((cls a : Int) == 3) = false := beq_eq_false_iff_ne.2 (by have := na.1 hn.1; omega)
    have db : ((cls b : Int) == 3) = false := beq_eq_false_iff_ne.2 (by have := nb.1 hn.2; omega)
    clear na nb hn
    generalize cls a = x at *
    generalize cls b = y at *
    generalize key a = kA at *
    generalize key b = kB at *
    obtain ⟨K, L, hK, hL, hkl⟩ : ∃ (K : Int) (L : Bool), (if kA < kB then -1 else if kB < kA then 1 else (0 : Int)) = K ∧ decide (kA < kB) = L ∧ ((kA < kB ∧ ¬ kB < kA ∧ K = -1 ∧ L = true) ∨ (¬ kA < kB ∧ kB < kA ∧ K = 1 ∧ L = false) ∨ (¬ kA < kB ∧ ¬ kB < kA ∧ K = 0 ∧ L = false)) := by
      refine ⟨_, _, rfl, rfl, ?_⟩
      by_cases h : kA < kB
      · exact .inl ⟨h, by omega, if_pos h, decide_eq_true h⟩
      · by_cases h' : kB < kA
        · exact .inr (.inl ⟨h, h', by rw [if_neg h, if_pos h'], decide_eq_false h⟩)
        · exact .inr (.inr ⟨h, h', by rw [if_neg h, if_neg h'], decide_eq_false h⟩)
    rw [hK] at h1
    rw [hL] at h2
    have HK := Lib.hid hkl
    clear hK hL hkl
    dsimp only at h1
    go_enter Try.func8, Try.ntmps8
    go_wp2_with fail
    refine h1.mono ?_
    rintro e w1 ⟨rfl, b1⟩
    go_wp2_with fail
    refine (hca _).mono ?_
    rintro e w2 ⟨rfl, rfl⟩
    go_wp2_with fail
    refine (hcb _).mono ?_
    rintro e w2 ⟨rfl, rfl⟩
    clear h1 hca hcb
    go_wp2_with fail
    refine (hor _).mono ?_
    rintro e w2 ⟨z, rfl, z1, z2, z3, z4, b2⟩
    replace b1 := below_both b1 b2
    have hz : (decide (0 < z) = false ∧ decide (z < 0) = true ∧ K = -1 ∧ L = true) ∨ (decide (0 < z) = true ∧ decide (z < 0) = false ∧ K = 1 ∧ L = false) ∨ (z = 0 ∧ K = 0 ∧ L = false) := by
      rcases HK.out with ⟨e1, e2, e3, e4⟩ | ⟨e1, e2, e3, e4⟩ | ⟨e1, e2, e3, e4⟩
      · exact .inl ⟨decide_eq_false (fun h => by have := z2.1 h; omega), decide_eq_true (z1.2 e1), e3, e4⟩
      · exact .inr (.inl ⟨decide_eq_true (z2.2 e2), decide_eq_false (fun h => by have := z1.1 h; omega), e3, e4⟩)
      · refine .inr (.inr ⟨?_, e3, e4⟩)
        have : ¬ z < 0 := fun h => by have := z1.1 h; omega
        have : ¬ 0 < z := fun h => by have := z2.1 h; omega
        omega
    clear HK z1 z2 z3 z4 hor b2
    rcases hz with ⟨e1, e2, rfl, rfl⟩ | ⟨e1, e2, rfl, rfl⟩ | ⟨rfl, rfl, rfl⟩
    all_goals
      go_wp2_with fail
      refine (h2 _).mono ?_
      rintro e w3 ⟨rfl, b2⟩
      replace b1 := below_both b1 b2
      clear b2
      go_wp2_with fail
      refine (calive _).mono ?_
      rintro e w4 ⟨rfl, b2⟩
      replace b1 := below_both b1 b2
      clear b2
      go_wp2
      go_ret
      exact ⟨rfl, b1⟩
  · have hf : (isNum a && isNum b) = false := by
      rw [Bool.and_eq_false_iff]
      by_cases h : isNum a = true
      · right; exact Bool.eq_false_iff.2 (fun h' => hn ⟨h, h'⟩)
      · left; exact Bool.eq_false_iff.2 h
    rw [hf, if_neg Bool.false_ne_true] at h1
    rw [hf, Bool.false_and] at h2
    have hk : (cls a = 3) ∨ (((cls a : Int) == 3) = false ∧ cls b = 3) := by
      by_cases h : cls a = 3
      · exact .inl h
      · refine .inr ⟨beq_eq_false_iff_ne.2 (by omega), ?_⟩
        by_cases h' : cls b = 3
        · exact h'
        · exact absurd ⟨na.2 h, nb.2 h'⟩ hn
    clear na nb hn hf
    generalize cls a = x at *
    generalize cls b = y at *
    dsimp only at h1
    go_enter Try.func8, Try.ntmps8
    go_wp2_with fail
    refine h1.mono ?_
    rintro e w1 ⟨rfl, b1⟩
    go_wp2_with fail
    refine (hca _).mono ?_
    rintro e w2 ⟨rfl, rfl⟩
    rcases hk with rfl | ⟨d, rfl⟩
    · clear h1 hca hcb
      go_wp2_with fail
      refine (h2 _).mono ?_
      rintro e w3 ⟨rfl, b2⟩
      replace b1 := below_both b1 b2
      clear b2
      go_wp2_with fail
      refine (calive _).mono ?_
      rintro e w4 ⟨rfl, b2⟩
      replace b1 := below_both b1 b2
      clear b2
      go_wp2
      go_ret
      exact ⟨rfl, b1⟩
    · go_wp2_with fail
      refine (hcb _).mono ?_
      rintro e w2 ⟨rfl, rfl⟩
      clear h1 hca hcb
      go_wp2_with fail
      refine (h2 _).mono ?_
      rintro e w3 ⟨rfl, b2⟩
      replace b1 := below_both b1 b2
      clear b2
      go_wp2_with fail
      refine (calive _).mono ?_
      rintro e w4 ⟨rfl, b2⟩
      replace b1 := below_both b1 b2
      clear b2
      go_wp2
      go_ret
      exact ⟨rfl, b1⟩
end Go.Proofs.Ytgobclmihppopab
