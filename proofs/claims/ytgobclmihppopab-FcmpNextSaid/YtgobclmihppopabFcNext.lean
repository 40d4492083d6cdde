/- vernierlaw12.FcmpNext, walked. -/
import Derived.Test.YtgobclmihppopabFcLaw
namespace Go.Proofs.Ytgobclmihppopab
open Go.RowKit Go.Shelf
theorem kless_next {a b : Nat} (ha : a < 18446744073709551616) (hn : isNum a = true) (hi : a ≠ 9218868437227405312) : kless a (nxtB a) = true ∧ (kless a b = true → kless b (nxtB a) = false) := by
  obtain ⟨n1, n2, n3, n4, n5⟩ := nxt_facts ha hn hi
  unfold kless
  rw [hn, n2, n3, Bool.and_self, Bool.true_and, Bool.true_and, Bool.and_true]
  refine ⟨decide_eq_true (by omega), fun h => ?_⟩
  rw [Bool.and_eq_true, decide_eq_true_eq] at h
  rw [decide_eq_false (by omega), Bool.and_false]
theorem kless_prev {a b : Nat} (ha : a < 18446744073709551616) (hn : isNum a = true) (hi : a ≠ 18442240474082181120) : kless (prvB a) a = true ∧ (kless (prvB a) b = true → kless b a = false) := by
  obtain ⟨n1, n2, n3, n4⟩ := prv_facts ha hn hi
  unfold kless
  rw [hn, n2, n3, Bool.and_self, Bool.true_and, Bool.true_and, Bool.and_true]
  refine ⟨decide_eq_true (by omega), fun h => ?_⟩
  rw [Bool.and_eq_true, decide_eq_true_eq] at h
  rw [decide_eq_false (by omega), Bool.and_false]
theorem bool_two {l m : Bool} (h : l = true → m = false) : l = false ∨ (l = true ∧ m = false) := by
  cases l
  · exact .inl rfl
  · exact .inr ⟨rfl, h rfl⟩
theorem infB_pos : infB false = 9218868437227405312 := rfl
theorem infB_neg : infB true = 18442240474082181120 := rfl
theorem le_inf {a : Nat} (hn : isNum a = true) : mag a ≤ 9218868437227405312 := of_decide_eq_true hn
theorem dbl {a : Nat} : IntKind.u64.wrap ((a : Int) * 2) = ((a * 2 % 18446744073709551616 : Nat) : Int) := by
  rw [IntKind.wrap_u64]; omega
set_option maxRecDepth 100000 in
set_option maxHeartbeats 8000000 in
theorem fcmpNext_calls {a b : Nat} {w : World} (ha : (a : Int) ≤ 18446744073709551615) (hb : (b : Int) ≤ 18446744073709551615) :
    Calls Try.prog 9 #[.int .u64 (a : Int), .int .u64 (b : Int)] w fun e W' => e = .returned (.bool true) ∧ Below w.heap.size w W' := by
  have hnx := fun w => fcmp_next (w := w) ha
  have hpv := fun w => fcmp_prev (w := w) ha
  have hca := fun w => class6 (W := w) ha
  have na := isNum_cls a
  have ip : ∀ w : World, Calls Try.prog 29 #[.bool false] w fun e W' => e = .returned (.int .u64 9218868437227405312) ∧ w = W' := fun w => inf6 false w
  have im : ∀ w : World, Calls Try.prog 29 #[.bool true] w fun e W' => e = .returned (.int .u64 18442240474082181120) ∧ w = W' := fun w => inf6 true w
  by_cases hn : isNum a = true
  · have dc : ((cls a : Int) == 3) = false := beq_eq_false_iff_ne.2 (by have := na.1 hn; omega)
    have hxl : (nxtB a : Int) ≤ 18446744073709551615 := by
      by_cases h : a = 9218868437227405312
      · rw [h]; decide
      · have := (nxt_facts (by omega) hn h).1; omega
    have hyl : (prvB a : Int) ≤ 18446744073709551615 := by
      by_cases h : a = 18442240474082181120
      · rw [h]; decide
      · have := (prv_facts (by omega) hn h).1; omega
    have hbk := fun w => fcmp_prev (w := w) hxl
    have l1 := fun w => fcmp_less (a := a) (b := nxtB a) (w := w) ha hxl
    have l2 := fun w => fcmp_less (a := a) (b := b) (w := w) ha hb
    have l3 := fun w => fcmp_less (a := b) (b := nxtB a) (w := w) hb hxl
    have m1 := fun w => fcmp_less (a := prvB a) (b := a) (w := w) hyl ha
    have m2 := fun w => fcmp_less (a := prvB a) (b := b) (w := w) hyl hb
    have m3 := fun w => fcmp_less (a := b) (b := a) (w := w) hb ha
    -- what the tests answer
    obtain ⟨r1, r2, e1, e2, R1⟩ : ∃ r1 r2 : Bool, ((a : Int) == 9223372036854775809) = r1 ∧ ((nxtB a : Int) != 9223372036854775808) = r2 ∧ (r1 = false ∨ (r1 = true ∧ r2 = false)) := by
      refine ⟨_, _, rfl, rfl, ?_⟩
      by_cases h : a = 9223372036854775809
      · subst h; exact .inr ⟨rfl, by decide⟩
      · exact .inl (beq_eq_false_iff_ne.2 (by omega))
    obtain ⟨r3, r4, e3, e4, R3⟩ : ∃ r1 r2 : Bool, ((a : Int) == 1) = r1 ∧ ((prvB a : Int) != 0) = r2 ∧ (r1 = false ∨ (r1 = true ∧ r2 = false)) := by
      refine ⟨_, _, rfl, rfl, ?_⟩
      by_cases h : a = 1
      · subst h; exact .inr ⟨rfl, by decide⟩
      · exact .inl (beq_eq_false_iff_ne.2 (by omega))
    obtain ⟨r5, r6, r7, e5, e6, e7, R5⟩ : ∃ r5 r6 r7 : Bool, ((prvB (nxtB a) : Int) == (a : Int)) = r5 ∧ (IntKind.u64.wrap ((prvB (nxtB a) : Int) * 2) == 0) = r6 ∧ (IntKind.u64.wrap ((a : Int) * 2) == 0) = r7 ∧ (a = 9218868437227405312 ∨ r5 = true ∨ (r5 = false ∧ r6 = true ∧ r7 = true)) := by
      refine ⟨_, _, _, rfl, rfl, rfl, ?_⟩
      by_cases h : a = 9218868437227405312
      · exact .inl h
      · rcases (nxt_facts (by omega) hn h).2.2.2.1 with h1 | ⟨h1, h2⟩
        · rw [h1]; exact .inr (.inl (beq_self_eq_true _))
        · subst h2; exact .inr (.inr ⟨by rw [h1]; decide, by rw [h1]; decide, by decide⟩)
    obtain ⟨p, q, vx, vy, ei, ej, ex, ey, HP⟩ : ∃ p q vx vy : Bool, ((a : Int) == 9218868437227405312) = p ∧ ((a : Int) == 18442240474082181120) = q ∧ ((nxtB a : Int) != (a : Int)) = vx ∧ ((prvB a : Int) != (a : Int)) = vy ∧ ((p = true ∧ vx = false ∧ q = false) ∨ (p = false ∧ q = true ∧ vy = false) ∨ (p = false ∧ q = false)) := by
      refine ⟨_, _, _, _, rfl, rfl, rfl, rfl, ?_⟩
      by_cases h : a = 9218868437227405312
      · subst h; exact .inl ⟨rfl, by decide, by decide⟩
      · by_cases h' : a = 18442240474082181120
        · subst h'; exact .inr (.inl ⟨by decide, rfl, by decide⟩)
        · exact .inr (.inr ⟨beq_eq_false_iff_ne.2 (by omega), beq_eq_false_iff_ne.2 (by omega)⟩)
    obtain ⟨p', q', ei', ej', pp, qq⟩ : ∃ p' q' : Bool, ((a : Int) != 9218868437227405312) = p' ∧ ((a : Int) != 18442240474082181120) = q' ∧ p' = !p ∧ q' = !q := ⟨_, _, rfl, rfl, by rw [← ei]; rfl, by rw [← ej]; rfl⟩
    have KL : p' = false ∨ (p' = true ∧ kless a (nxtB a) = true ∧ (kless a b = false ∨ (kless a b = true ∧ kless b (nxtB a) = false))) := by
      by_cases h : a = 9218868437227405312
      · left; rw [← ei', h]; rfl
      · right
        obtain ⟨j1, j2⟩ := kless_next (b := b) (by omega) hn h
        exact ⟨by rw [← ei']; exact bne_iff_ne.2 (by omega), j1, bool_two j2⟩
    have KM : q' = false ∨ (q' = true ∧ kless (prvB a) a = true ∧ (kless (prvB a) b = false ∨ (kless (prvB a) b = true ∧ kless b a = false))) := by
      by_cases h : a = 18442240474082181120
      · left; rw [← ej', h]; rfl
      · right
        obtain ⟨j1, j2⟩ := kless_prev (b := b) (by omega) hn h
        exact ⟨by rw [← ej']; exact bne_iff_ne.2 (by omega), j1, bool_two j2⟩
    replace R5 : p = true ∨ r5 = true ∨ (r5 = false ∧ r6 = true ∧ r7 = true) := by
      rcases R5 with h | h
      · left; rw [← ei, h]; rfl
      · exact .inr h
    clear na hn ha hb hxl hyl pp qq
    generalize kless a (nxtB a) = la at *
    generalize kless a b = lb at *
    generalize kless b (nxtB a) = lc at *
    generalize kless (prvB a) a = ma at *
    generalize kless (prvB a) b = mb at *
    generalize kless b a = mc at *
    generalize prvB (nxtB a) = B at *
    generalize nxtB a = x at *
    generalize prvB a = y at *
    generalize cls a = c at *
    have HP := Lib.hid HP
    have KL := Lib.hid KL
    have KM := Lib.hid KM
    have R1 := Lib.hid R1
    have R3 := Lib.hid R3
    have R5 := Lib.hid R5
    go_enter Try.func9, Try.ntmps9
    go_wp2_with fail
    refine (calive _).mono ?_
    rintro e w1 ⟨rfl, b1⟩
    go_wp2_with fail
    refine (hnx _).mono ?_
    rintro e w2 ⟨rfl, b2⟩
    replace b1 := below_both b1 b2
    clear b2
    go_wp2_with fail
    refine (hpv _).mono ?_
    rintro e w2 ⟨rfl, b2⟩
    replace b1 := below_both b1 b2
    clear b2
    go_wp2_with fail
    refine (hca _).mono ?_
    rintro e w2 ⟨rfl, rfl⟩
    clear hnx hpv hca
    go_upto_region 6 with (fail)
    go_cut [40] from 23 to 40 (fun u wx => u = .bool false ∧ Below w.heap.size w wx)
    case first =>
      rcases HP.out with ⟨rfl, rfl, rfl⟩ | ⟨rfl, rfl, rfl⟩ | ⟨rfl, rfl⟩
      all_goals
        go_wp2_with fail
        refine (ip _).mono ?_
        rintro e w2 ⟨rfl, rfl⟩
        go_wp2_with fail
        refine (im _).mono ?_
        rintro e w2 ⟨rfl, rfl⟩
        go_wp2_with fail
        go_meet
        exact ⟨rfl, b1⟩
    obtain ⟨rfl, b2⟩ := hcut
    clear b1
    go_upto_region 8 with (fail)
    go_cut [59] from 41 to 59 (fun u wx => u = .bool false ∧ Below w.heap.size w wx)
    case first =>
      rcases KL.out with rfl | ⟨rfl, rfl, hh⟩
      · skip
        go_wp2_with fail
        refine (ip _).mono ?_
        rintro e w2 ⟨rfl, rfl⟩
        go_wp2_with fail
        go_meet
        exact ⟨rfl, b2⟩
      · skip
        go_wp2_with fail
        refine (ip _).mono ?_
        rintro e w2 ⟨rfl, rfl⟩
        go_wp2_with fail
        refine (l1 _).mono ?_
        rintro e w2 ⟨rfl, b3⟩
        replace b2 := below_both b2 b3
        clear b3
        go_wp2_with fail
        refine (l2 _).mono ?_
        rintro e w2 ⟨rfl, b3⟩
        replace b2 := below_both b2 b3
        clear b3
        rcases hh with rfl | ⟨rfl, rfl⟩
        · skip
          go_wp2_with fail
          go_meet
          exact ⟨rfl, b2⟩
        · skip
          go_wp2_with fail
          refine (l3 _).mono ?_
          rintro e w2 ⟨rfl, b3⟩
          replace b2 := below_both b2 b3
          clear b3
          go_wp2_with fail
          go_meet
          exact ⟨rfl, b2⟩
    clear b2
    obtain ⟨rfl, b2⟩ := hcut
    clear l1 l2 l3
    go_upto_region 10 with (fail)
    go_cut [78] from 60 to 78 (fun u wx => u = .bool false ∧ Below w.heap.size w wx)
    case first =>
      rcases KM.out with rfl | ⟨rfl, rfl, hh⟩
      · skip
        go_wp2_with fail
        refine (im _).mono ?_
        rintro e w2 ⟨rfl, rfl⟩
        go_wp2_with fail
        go_meet
        exact ⟨rfl, b2⟩
      · skip
        go_wp2_with fail
        refine (im _).mono ?_
        rintro e w2 ⟨rfl, rfl⟩
        go_wp2_with fail
        refine (m1 _).mono ?_
        rintro e w2 ⟨rfl, b3⟩
        replace b2 := below_both b2 b3
        clear b3
        go_wp2_with fail
        refine (m2 _).mono ?_
        rintro e w2 ⟨rfl, b3⟩
        replace b2 := below_both b2 b3
        clear b3
        rcases hh with rfl | ⟨rfl, rfl⟩
        · skip
          go_wp2_with fail
          go_meet
          exact ⟨rfl, b2⟩
        · skip
          go_wp2_with fail
          refine (m3 _).mono ?_
          rintro e w2 ⟨rfl, b3⟩
          replace b2 := below_both b2 b3
          clear b3
          go_wp2_with fail
          go_meet
          exact ⟨rfl, b2⟩
    clear b2
    obtain ⟨rfl, b2⟩ := hcut
    clear m1 m2 m3
    go_upto_region 12 with (fail)
    go_cut [92] from 79 to 92 (fun u wx => u = .bool false ∧ Below w.heap.size w wx)
    case first =>
      rcases R1.out with rfl | ⟨rfl, rfl⟩
      all_goals
        rcases R3.out with rfl | ⟨rfl, rfl⟩
        all_goals
          go_wp2_with fail
          go_meet
          exact ⟨rfl, b2⟩
    clear b2
    obtain ⟨rfl, b2⟩ := hcut
    go_wp2_with fail
    refine (hbk _).mono ?_
    rintro e w2 ⟨rfl, b3⟩
    replace b2 := below_both b2 b3
    clear b3
    go_wp2_with fail
    refine (ip _).mono ?_
    rintro e w2 ⟨rfl, rfl⟩
    have R6 : p = true ∨ (p = false ∧ r5 = true) ∨ (p = false ∧ r5 = false ∧ r6 = true ∧ r7 = true) := by
      rcases R5.out with h | h
      · exact .inl h
      · cases p
        · rcases h with h | h
          · exact .inr (.inl ⟨rfl, h⟩)
          · exact .inr (.inr ⟨rfl, h⟩)
        · exact .inl rfl
    rcases R6 with rfl | ⟨rfl, rfl⟩ | ⟨rfl, rfl, rfl, rfl⟩
    all_goals
      go_wp2
      go_ret
      exact ⟨rfl, b2⟩
  · have h3 : cls a = 3 := by
      by_cases h : cls a = 3
      · exact h
      · exact absurd (na.2 h) hn
    rw [h3] at hca
    unfold nxtB at hnx
    unfold prvB at hpv
    rw [if_neg hn] at hnx hpv
    clear na hn h3 hb ha
    go_enter Try.func9, Try.ntmps9
    go_wp2_with fail
    refine (calive _).mono ?_
    rintro e w1 ⟨rfl, b1⟩
    go_wp2_with fail
    refine (hnx _).mono ?_
    rintro e w2 ⟨rfl, b2⟩
    replace b1 := below_both b1 b2
    clear b2
    go_wp2_with fail
    refine (hpv _).mono ?_
    rintro e w2 ⟨rfl, b2⟩
    replace b1 := below_both b1 b2
    clear b2
    go_wp2_with fail
    refine (hca _).mono ?_
    rintro e w2 ⟨rfl, rfl⟩
    go_wp2
    go_ret
    exact ⟨rfl, b1⟩
end Go.Proofs.Ytgobclmihppopab
