/- vernierlaw06.PartsModes, walked. -/
import Derived.Test.YtcgdiodpniiegaaPaLaw
import Derived.Test.YtcgdiodpniiegaaRndModes
namespace Go.Proofs.Ytcgdiodpniiegaa
open Go.RowKit Go.Shelf
theorem prnd_modes (hi lo : Nat) (exp : Int) :
    Modes (prnd false hi lo exp false 4).1 (prnd false hi lo exp false 4).2 (prnd false hi lo exp false 3).1 (prnd false hi lo exp false 3).2 (prnd false hi lo exp false 2).1 (prnd false hi lo exp false 0).1 (prnd false hi lo exp false 1).1 (prnd true hi lo exp false 3).1 := by
  unfold prnd
  by_cases h : hi * 18446744073709551616 + lo = 0
  · simp only [h, if_true]
    unfold Modes
    decide
  · have e : ¬ (false = true ∧ (55 ≤ nbits (hi * 18446744073709551616 + lo) ∨ clampE exp ≤ -1080)) := fun h => Bool.noConfusion h.1
    rw [if_neg h, if_neg h, if_neg h, if_neg h, if_neg h, if_neg h, if_neg e, if_neg e, if_neg e, if_neg e, if_neg e, if_neg e]
    exact rnd_modes (Nat.pos_of_ne_zero h) (by decide) _
set_option maxRecDepth 100000 in
set_option maxHeartbeats 4000000 in
theorem partsModes_calls {hi lo : Nat} {exp : Int} {w : World} (hh : (hi : Int) ≤ 18446744073709551615) (hl : (lo : Int) ≤ 18446744073709551615) (e1 : -9223372036854775808 ≤ exp) (e2 : exp ≤ 9223372036854775807) :
    Calls Try.prog 6 #[.int .u64 (hi : Int), .int .u64 (lo : Int), .int .i64 exp] w fun e W' => e = .returned (.bool true) ∧ Below w.heap.size w W' := by
  have hm := prnd_modes hi lo exp
  have h4 := fun w => pround (neg := false) (more := false) (mode := 4) (w := w) hh hl e1 e2
  have h3 := fun w => pround (neg := false) (more := false) (mode := 3) (w := w) hh hl e1 e2
  have h2 := fun w => pround (neg := false) (more := false) (mode := 2) (w := w) hh hl e1 e2
  have h0 := fun w => pround (neg := false) (more := false) (mode := 0) (w := w) hh hl e1 e2
  have h1 := fun w => pround (neg := false) (more := false) (mode := 1) (w := w) hh hl e1 e2
  have hc := fun w => pround (neg := true) (more := false) (mode := 3) (w := w) hh hl e1 e2
  generalize prnd false hi lo exp false 4 = pa at *
  generalize prnd false hi lo exp false 3 = pb at *
  generalize prnd false hi lo exp false 2 = pz at *
  generalize prnd false hi lo exp false 0 = pn at *
  generalize prnd false hi lo exp false 1 = pw at *
  generalize prnd true hi lo exp false 3 = pc at *
  obtain ⟨a, f⟩ := pa
  obtain ⟨b, g⟩ := pb
  obtain ⟨z, z2⟩ := pz
  obtain ⟨n, n2⟩ := pn
  obtain ⟨v, v2⟩ := pw
  obtain ⟨c, c2⟩ := pc
  dsimp only at *
  obtain ⟨m1, m2, m3, m4, m5, m6, m7, m8, m9⟩ := hm
  have hc1 : (c : Int) = (a : Int) + 9223372036854775808 := by omega
  rw [hc1] at hc
  have ha : (a : Int) ≤ 9218868437227405312 := by omega
  clear m7 m9 hc1
  subst m3
  by_cases hab : z = b
  · subst hab
    have n4 : n = z := by omega
    have n5 : v = z := by omega
    have n8 : f = g := by rcases m8 with h | h; exact h; exact absurd rfl h
    clear m1 m2 m6 m4 m5 m8
    subst n4 n5 n8
    go_enter Try.func6, Try.ntmps6
    go_wp2_with fail
    refine (palive _).mono ?_
    rintro e w1 ⟨rfl, b1⟩
    go_wp2_with fail
    refine (h4 _).mono ?_
    rintro e w2 ⟨rfl, b2⟩
    replace b1 := below_both b1 b2
    clear b2 h4
    go_wp2_with fail
    refine (h3 _).mono ?_
    rintro e w3 ⟨rfl, b2⟩
    replace b1 := below_both b1 b2
    clear b2 h3
    go_wp2_with fail
    refine (h2 _).mono ?_
    rintro e w4 ⟨rfl, b2⟩
    replace b1 := below_both b1 b2
    clear b2 h2
    go_wp2_with fail
    refine (h0 _).mono ?_
    rintro e w5 ⟨rfl, b2⟩
    replace b1 := below_both b1 b2
    clear b2 h0
    go_wp2_with fail
    refine (h1 _).mono ?_
    rintro e w6 ⟨rfl, b2⟩
    replace b1 := below_both b1 b2
    clear b2 h1
    go_wp2_with fail
    refine (hc _).mono ?_
    rintro e w7 ⟨rfl, b2⟩
    replace b1 := below_both b1 b2
    clear b2 hc
    go_wp2
    go_ret
    exact ⟨rfl, b1⟩
  · have hb : (b : Int) = (z : Int) + 1 := by omega
    rw [hb] at h3
    rcases m4 with m4 | m4
    · rcases m5 with m5 | m5
      · subst m4 m5
        clear m1 m2 m6 m8
        go_enter Try.func6, Try.ntmps6
        go_wp2_with fail
        refine (palive _).mono ?_
        rintro e w1 ⟨rfl, b1⟩
        go_wp2_with fail
        refine (h4 _).mono ?_
        rintro e w2 ⟨rfl, b2⟩
        replace b1 := below_both b1 b2
        clear b2 h4
        go_wp2_with fail
        refine (h3 _).mono ?_
        rintro e w3 ⟨rfl, b2⟩
        replace b1 := below_both b1 b2
        clear b2 h3
        go_wp2_with fail
        refine (h2 _).mono ?_
        rintro e w4 ⟨rfl, b2⟩
        replace b1 := below_both b1 b2
        clear b2 h2
        go_wp2_with fail
        refine (h0 _).mono ?_
        rintro e w5 ⟨rfl, b2⟩
        replace b1 := below_both b1 b2
        clear b2 h0
        go_wp2_with fail
        refine (h1 _).mono ?_
        rintro e w6 ⟨rfl, b2⟩
        replace b1 := below_both b1 b2
        clear b2 h1
        go_wp2_with fail
        refine (hc _).mono ?_
        rintro e w7 ⟨rfl, b2⟩
        replace b1 := below_both b1 b2
        clear b2 hc
        go_wp2
        all_goals (go_ret; refine ⟨?_, b1⟩; first | rfl | (simp; done) | (simp; omega))
      · subst m4 m5
        rw [hb] at h1
        clear m1 m2 m6 m8
        go_enter Try.func6, Try.ntmps6
        go_wp2_with fail
        refine (palive _).mono ?_
        rintro e w1 ⟨rfl, b1⟩
        go_wp2_with fail
        refine (h4 _).mono ?_
        rintro e w2 ⟨rfl, b2⟩
        replace b1 := below_both b1 b2
        clear b2 h4
        go_wp2_with fail
        refine (h3 _).mono ?_
        rintro e w3 ⟨rfl, b2⟩
        replace b1 := below_both b1 b2
        clear b2 h3
        go_wp2_with fail
        refine (h2 _).mono ?_
        rintro e w4 ⟨rfl, b2⟩
        replace b1 := below_both b1 b2
        clear b2 h2
        go_wp2_with fail
        refine (h0 _).mono ?_
        rintro e w5 ⟨rfl, b2⟩
        replace b1 := below_both b1 b2
        clear b2 h0
        go_wp2_with fail
        refine (h1 _).mono ?_
        rintro e w6 ⟨rfl, b2⟩
        replace b1 := below_both b1 b2
        clear b2 h1
        go_wp2_with fail
        refine (hc _).mono ?_
        rintro e w7 ⟨rfl, b2⟩
        replace b1 := below_both b1 b2
        clear b2 hc
        go_wp2
        all_goals (go_ret; refine ⟨?_, b1⟩; first | rfl | (simp; done) | (simp; omega))
    · rcases m5 with m5 | m5
      · omega
      · subst m4 m5
        rw [hb] at h0 h1
        clear m1 m2 m6 m8
        go_enter Try.func6, Try.ntmps6
        go_wp2_with fail
        refine (palive _).mono ?_
        rintro e w1 ⟨rfl, b1⟩
        go_wp2_with fail
        refine (h4 _).mono ?_
        rintro e w2 ⟨rfl, b2⟩
        replace b1 := below_both b1 b2
        clear b2 h4
        go_wp2_with fail
        refine (h3 _).mono ?_
        rintro e w3 ⟨rfl, b2⟩
        replace b1 := below_both b1 b2
        clear b2 h3
        go_wp2_with fail
        refine (h2 _).mono ?_
        rintro e w4 ⟨rfl, b2⟩
        replace b1 := below_both b1 b2
        clear b2 h2
        go_wp2_with fail
        refine (h0 _).mono ?_
        rintro e w5 ⟨rfl, b2⟩
        replace b1 := below_both b1 b2
        clear b2 h0
        go_wp2_with fail
        refine (h1 _).mono ?_
        rintro e w6 ⟨rfl, b2⟩
        replace b1 := below_both b1 b2
        clear b2 h1
        go_wp2_with fail
        refine (hc _).mono ?_
        rintro e w7 ⟨rfl, b2⟩
        replace b1 := below_both b1 b2
        clear b2 hc
        go_wp2
        all_goals (go_ret; refine ⟨?_, b1⟩; first | rfl | (simp; done) | (simp; omega))
end Go.Proofs.Ytcgdiodpniiegaa
