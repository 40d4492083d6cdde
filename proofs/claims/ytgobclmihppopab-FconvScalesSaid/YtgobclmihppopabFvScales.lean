/- vernierlaw13.FconvScales, walked. -/
import Derived.Test.YtgobclmihppopabFvWhole
import Derived.Test.YtgobclmihppopabFmSpec
namespace Go.Proofs.Ytgobclmihppopab
open Go.RowKit Go.Shelf
theorem num_new {W : World} {u : Nat} (hu : u < 18446744073709551616) : Num (W.alloc (.cells #[.int .u64 (u : Int)] 22)) (.slice (some ⟨W.heap.size, 0, none⟩) 1 1) u 1 :=
  ⟨[u], ⟨W.heap.size, by simp, (Row.new W .u64 22 [u]).rd 1 (by simp)⟩, by intro y hy; simp at hy; omega, by simp [val], by simp⟩
theorem intB_lt (n mode : Int) : (intB n mode).1 ≤ 18446744073709551615 := by
  unfold intB
  split
  · exact Nat.zero_le _
  · exact rnd_lt _ (by omega) (by decide) _ _
set_option maxRecDepth 100000 in
set_option maxHeartbeats 8000000 in
theorem fconvScales_calls {n z : Int} {w : World} (h1 : -2147483648 ≤ n) (h2 : n ≤ 2147483647) (h3 : -9223372036854775808 ≤ z) (h4 : z ≤ 9223372036854775807) :
    Calls Try.prog 13 #[.int .i32 n, .int .i64 z] w fun e W' => e = .returned (.bool true) ∧ Below w.heap.size w W' := by
  obtain ⟨E, hE⟩ : ∃ E, Int.tmod z 900 = E := ⟨_, rfl⟩
  have e1 : -900 ≤ E ∧ E ≤ 900 := by
    rw [← hE]
    rcases Int.le_total 0 z with h | h
    · rw [Int.tmod_eq_emod_of_nonneg h]; omega
    · rw [show z = -(-z) by omega, Int.neg_tmod, Int.tmod_eq_emod_of_nonneg (by omega)]; omega
  have hi := fun w => fconv_int (n := n) (mode := 0) (w := w) (by omega) (by omega)
  have hsc := fun w => fmul_scale (a := (intB n 0).1) (n := E) (mode := 0) (w := w) (by have := intB_lt n 0; omega) (by omega) (by omega)
  have hmay : mayV 1 E = true := mayV_iff.2 ⟨by omega, by omega, by decide⟩
  have hfr := fun (s : Bool) (W : World) (u : Nat) (hu : u < 18446744073709551616) => fconv_from (s := s) (x := E) (mode := 0) (num_new (W := W) hu) (by decide) (by omega) (by omega)
  by_cases h0 : n = 0
  · subst h0
    rw [show intB 0 0 = (0, 0) from rfl] at hi hsc
    have hr0 : rscale 0 E 0 = (0, 0) := by unfold rscale; rw [show cls 0 = 0 from by decide, if_neg (by decide), if_pos (by decide)]
    rw [hr0] at hsc
    have hf : ∀ W : World, Calls Try.prog 37 #[.agg #[.bool false, .slice (some ⟨W.heap.size, 0, none⟩) 1 1, .int .i64 E], .int .i64 0] (W.alloc (.cells #[.int .u64 0] 22)) fun e W' => ∃ Z : Nat, e = .returned (.tuple #[.int .u64 (Z : Int), .int .i64 0, .int .i64 0]) ∧ (Z = 0 ∨ Z = 9223372036854775808) ∧ Below (W.alloc (.cells #[.int .u64 0] 22)).heap.size (W.alloc (.cells #[.int .u64 0] 22)) W' := by
      intro W
      refine (hfr false W 0 (by decide)).mono ?_
      rintro e W' ⟨Z, F, q, rfl, _, k2, b2⟩
      obtain ⟨rfl, k3, _⟩ := k2 hmay
      obtain ⟨rfl, k4⟩ := k3 rfl
      exact ⟨Z, rfl, k4, b2⟩
    clear hfr hmay hr0 h1 h2
    dsimp only at hi hsc
    go_enter Try.func13, Try.ntmps13
    go_wp2_with fail
    refine (valive _).mono ?_
    rintro e w1 ⟨rfl, b1⟩
    go_wp2_with fail
    refine (hi _).mono ?_
    rintro e w2 ⟨rfl, b2⟩
    replace b1 := below_both b1 b2
    clear b2
    go_wp2_with fail
    refine (hsc _).mono ?_
    rintro e w3 ⟨rfl, b2⟩
    replace b1 := below_both b1 b2
    clear b2
    go_wp2_with fail
    have bb := (Below.refl w3.heap.size w3).alloc (Nat.le_refl _) (.cells #[.int .u64 0] 22)
    replace b1 := below_both b1 bb
    refine (hf _).mono ?_
    rintro e w4 ⟨Z, rfl, k4, b2⟩
    replace b1 := below_both b1 b2
    clear hf hsc hi bb b2
    rcases k4 with rfl | rfl
    all_goals
      go_wp2
      go_ret
      exact ⟨rfl, b1⟩
  · obtain ⟨f1, f2, f3, f4⟩ := int_scale (n := n) (E := E) h0 (by omega) e1.1 e1.2
    obtain ⟨b, hb⟩ : ∃ b, (intB n 0).1 = b := ⟨_, rfl⟩
    obtain ⟨c, hc⟩ : ∃ c, (rscale b E 0).1 = c := ⟨_, rfl⟩
    rw [f1, hb] at hi
    rw [hb] at f2 f4 hsc
    rw [f2, hc] at hsc
    rw [hc] at f4
    have hrn : rnd (decide (n < 0)) n.natAbs 1 E 0 = (c, 0) := by rw [f4, ← f3]
    have hn0 : (n == 0) = false := beq_eq_false_iff_ne.2 h0
    have hf : ∀ W : World, Calls Try.prog 37 #[.agg #[.bool (decide (n < 0)), .slice (some ⟨W.heap.size, 0, none⟩) 1 1, .int .i64 E], .int .i64 0] (W.alloc (.cells #[.int .u64 (n.natAbs : Int)] 22)) fun e W' => e = .returned (.tuple #[.int .u64 (c : Int), .int .i64 0, .int .i64 0]) ∧ Below (W.alloc (.cells #[.int .u64 (n.natAbs : Int)] 22)).heap.size (W.alloc (.cells #[.int .u64 (n.natAbs : Int)] 22)) W' := by
      intro W
      refine (hfr (decide (n < 0)) W n.natAbs (by omega)).mono ?_
      rintro e W' ⟨Z, F, q, rfl, _, k2, b2⟩
      obtain ⟨rfl, _, k3⟩ := k2 hmay
      have := k3 (by omega)
      rw [hrn] at this
      simp only [Prod.mk.injEq] at this
      obtain ⟨rfl, rfl⟩ := this
      exact ⟨rfl, b2⟩
    clear hfr hmay f1 f2 f3 f4 hrn hb hc
    obtain ⟨N, hN⟩ : ∃ N : Nat, n.natAbs = N := ⟨_, rfl⟩
    rw [hN] at hf
    by_cases hneg : n < 0
    · obtain ⟨U, hU⟩ : ∃ U : Nat, U = 18446744073709551616 - N := ⟨_, rfl⟩
      have c1 : IntKind.u64.wrap n = (U : Int) := by rw [IntKind.wrap_u64]; omega
      have c2 : IntKind.u64.wrap (-(U : Int)) = (N : Int) := by rw [IntKind.wrap_u64]; omega
      have dn : decide (n < 0) = true := decide_eq_true hneg
      rw [dn] at hf
      clear hU hN h0 hneg
      go_enter Try.func13, Try.ntmps13
      go_wp2_with fail
      refine (valive _).mono ?_
      rintro e w1 ⟨rfl, b1⟩
      go_wp2_with fail
      refine (hi _).mono ?_
      rintro e w2 ⟨rfl, b2⟩
      replace b1 := below_both b1 b2
      clear b2
      go_wp2_with fail
      refine (hsc _).mono ?_
      rintro e w3 ⟨rfl, b2⟩
      replace b1 := below_both b1 b2
      clear b2
      go_wp2_with fail
      have bb := (Below.refl w3.heap.size w3).alloc (Nat.le_refl _) (.cells #[.int .u64 (N : Int)] 22)
      replace b1 := below_both b1 bb
      refine (hf _).mono ?_
      rintro e w4 ⟨rfl, b2⟩
      replace b1 := below_both b1 b2
      clear hf hsc hi bb b2
      go_wp2
      go_ret
      exact ⟨rfl, b1⟩
    · have c1 : IntKind.u64.wrap n = (N : Int) := by rw [IntKind.wrap_u64]; omega
      have dn : decide (n < 0) = false := decide_eq_false hneg
      rw [dn] at hf
      clear hN h0 hneg
      go_enter Try.func13, Try.ntmps13
      go_wp2_with fail
      refine (valive _).mono ?_
      rintro e w1 ⟨rfl, b1⟩
      go_wp2_with fail
      refine (hi _).mono ?_
      rintro e w2 ⟨rfl, b2⟩
      replace b1 := below_both b1 b2
      clear b2
      go_wp2_with fail
      refine (hsc _).mono ?_
      rintro e w3 ⟨rfl, b2⟩
      replace b1 := below_both b1 b2
      clear b2
      go_wp2_with fail
      have bb := (Below.refl w3.heap.size w3).alloc (Nat.le_refl _) (.cells #[.int .u64 (N : Int)] 22)
      replace b1 := below_both b1 bb
      refine (hf _).mono ?_
      rintro e w4 ⟨rfl, b2⟩
      replace b1 := below_both b1 b2
      clear hf hsc hi bb b2
      go_wp2
      go_ret
      exact ⟨rfl, b1⟩
end Go.Proofs.Ytgobclmihppopab
