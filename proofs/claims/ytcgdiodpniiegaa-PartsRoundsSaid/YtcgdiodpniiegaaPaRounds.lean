/- vernierlaw06.PartsRounds, walked. -/
import Derived.Test.YtcgdiodpniiegaaPaLaw
namespace Go.Proofs.Ytcgdiodpniiegaa
open Go.RowKit Go.Shelf
theorem digs_len0 (R : Nat) : ((digs 65536 R).length = 0) = (R = 0) := by
  by_cases h : R = 0
  · subst h; rw [digs_zero]; simp
  · rw [digs_pos (by decide) h]; simp [h]
/-- the tail: what is rounded, compared -/
theorem rn_one' {w : World} : RN (w.alloc (.cells #[.int .i64 1] 3)) (.slice (some ⟨w.heap.size, 0, none⟩) 1 1) 1 1 := rn_one w 1 (by decide) (by decide)
set_option maxRecDepth 100000 in
set_option maxHeartbeats 4000000 in
theorem partsRounds_calls {neg more : Bool} {hi lo : Nat} {exp mode : Int} {w : World} (hh : (hi : Int) ≤ 18446744073709551615) (hl : (lo : Int) ≤ 18446744073709551615) (h1 : -9223372036854775808 ≤ exp) (h2 : exp ≤ 9223372036854775807) :
    Calls Try.prog 4 #[.bool neg, .int .u64 (hi : Int), .int .u64 (lo : Int), .int .i64 exp, .bool more, .int .i64 mode] w fun e W' => e = .returned (.bool true) ∧ Below w.heap.size w W' := by
  have hpr := fun w => pround (neg := neg) (more := more) (mode := mode) (w := w) hh hl h1 h2
  have hwd := fun w => pwide (W := w) hh hl
  obtain ⟨P, hP⟩ : ∃ P, P = prnd neg hi lo exp more mode := ⟨_, rfl⟩
  rw [← hP] at hpr
  unfold prnd at hP
  have hcE : min (max exp (-16384)) 16384 = clampE exp := rfl
  have hc1 : -16384 ≤ clampE exp := by unfold clampE; omega
  have hc2 : clampE exp ≤ 16384 := by unfold clampE; omega
  obtain ⟨N, hN⟩ : ∃ N, N = hi * 18446744073709551616 + lo := ⟨_, rfl⟩
  rw [← hN] at hP hwd
  generalize clampE exp = E at *
  have HP := Lib.hid hP
  clear hP hN
  obtain ⟨p1, p2⟩ := P
  dsimp only at hpr
  go_enter Try.func4, Try.ntmps4
  go_wp2_with fail
  refine (palive _).mono ?_
  rintro e w1 ⟨rfl, b1⟩
  go_wp2_with fail
  refine (hpr _).mono ?_
  rintro e w2 ⟨rfl, b2⟩
  replace b1 := below_both b1 b2
  clear b2
  go_wp2_with fail
  refine (hwd _).mono ?_
  rintro e w3 ⟨v, rfl, rN, b2⟩
  replace b1 := below_both b1 b2
  clear b2 hpr hwd
  obtain ⟨xa, xc, rfl, hxc⟩ := rN.slice
  have hlen := digs_len0 N
  generalize hL : (digs 65536 N).length = L at *
  clear hxc hL
  by_cases hN0 : N = 0
  · have hL0 : L = 0 := by rw [hlen]; exact hN0
    subst hL0
    have hp := HP.out
    rw [if_pos hN0] at hp
    simp only [Prod.mk.injEq] at hp
    obtain ⟨rfl, rfl⟩ := hp
    clear HP hlen hN0
    go_wp2_with fail
    refine (zero6 neg _).mono ?_
    rintro e w4 ⟨rfl, rfl⟩
    go_wp2
    go_ret
    exact ⟨rfl, b1⟩
  · have hL0 : ¬ L = 0 := by rw [hlen]; exact hN0
    have hp := HP.out
    rw [if_neg hN0] at hp
    have hNp : 0 < N := Nat.pos_of_ne_zero hN0
    clear HP hlen hN0
    have tail : ∀ (N' k : Nat) (E' : Int) (w4 : World) (v : Value), 0 < N' → 1 ≤ k → k ≤ 100 → RN w4 v N' k → -16385 ≤ E' → E' ≤ 16384 → (p1, p2) = rnd neg N' 1 E' mode → Calls Try.prog 21 #[.bool neg, v, .slice (some ⟨w4.heap.size, 0, none⟩) 1 1, .int .i64 E', .int .i64 mode] (w4.alloc (.cells #[.int .i64 1] 3)) fun e W' => e = .returned (.tuple #[.int .u64 (p1 : Int), .int .i64 (p2 : Int)]) ∧ Below w4.heap.size w4 W' := by
      intro N' k E' w4 v k0 k1 k2 rv k3 k4 k5
      have bb := (Below.refl w4.heap.size w4).alloc (Nat.le_refl _) (.cells #[.int .i64 1] 3)
      refine (rround_num (rv.behind bb) rn_one' k0 (by decide) (by omega) (by omega) k1 (by decide) (by omega) (by omega)).mono ?_
      rintro e W' ⟨rfl, b⟩
      rw [← k5]
      exact ⟨rfl, below_both bb b⟩
    cases more
    · rw [if_neg (by intro h; exact Bool.noConfusion h.1)] at hp
      go_wp2_with fail
      refine (tail _ _ _ _ _ hNp (by decide) (by decide) rN (by omega) hc2 hp).mono ?_
      rintro e w9 ⟨rfl, b9⟩
      replace b1 := below_both b1 b9
      go_wp2
      go_ret
      exact ⟨rfl, b1⟩
    · by_cases hb : 55 ≤ nbits N
      · have hb' : (55 : Int) ≤ (nbits N : Int) := by omega
        rw [if_pos ⟨rfl, .inl hb⟩] at hp
        have hp' := Lib.hid hp
        clear hp
        go_wp2_with fail
        refine (rbits_num rN (by omega)).mono ?_
        rintro e w4 ⟨rfl, b4⟩
        replace rN := rN.behind b4
        replace b1 := below_both b1 b4
        clear b4
        go_wp2_with fail
        refine (rshl1 (k := 9) rN (by omega) (by have := rN.2; rw [show 9 = 8 + 1 from rfl, Nat.pow_succ]; omega)).mono ?_
        rintro e w5 ⟨v5, rfl, r5, b5⟩
        replace b1 := below_both b1 b5
        clear b5
        go_wp2_with fail
        have b6 := (Below.refl w5.heap.size w5).alloc (Nat.le_refl _) (.cells #[.int .i64 1] 3)
        refine (raddk (k := 10) (r5.behind b6) rn_one' (by omega) (by omega) (by have := r5.2; rw [show 10 = 9 + 1 from rfl, Nat.pow_succ]; omega)).mono ?_
        rintro e w6 ⟨v6, rfl, r6, b7⟩
        replace b1 := below_both b1 (below_both b6 b7)
        clear b6 b7
        go_wp2_with fail
        refine (tail _ _ _ _ _ (Nat.succ_pos _) (by decide) (by decide) r6 (by omega) (by omega) hp'.out).mono ?_
        rintro e w9 ⟨rfl, b9⟩
        replace b1 := below_both b1 b9
        go_wp2
        go_ret
        exact ⟨rfl, b1⟩
      · have hb' : ¬ (55 : Int) ≤ (nbits N : Int) := by omega
        by_cases hx : E ≤ -1080
        · rw [if_pos ⟨rfl, .inr hx⟩] at hp
          have hp' := Lib.hid hp
          clear hp
          go_wp2_with fail
          refine (rbits_num rN (by omega)).mono ?_
          rintro e w4 ⟨rfl, b4⟩
          replace rN := rN.behind b4
          replace b1 := below_both b1 b4
          clear b4
          go_wp2_with fail
          refine (rshl1 (k := 9) rN (by omega) (by have := rN.2; rw [show 9 = 8 + 1 from rfl, Nat.pow_succ]; omega)).mono ?_
          rintro e w5 ⟨v5, rfl, r5, b5⟩
          replace b1 := below_both b1 b5
          clear b5
          go_wp2_with fail
          have b6 := (Below.refl w5.heap.size w5).alloc (Nat.le_refl _) (.cells #[.int .i64 1] 3)
          refine (raddk (k := 10) (r5.behind b6) rn_one' (by omega) (by omega) (by have := r5.2; rw [show 10 = 9 + 1 from rfl, Nat.pow_succ]; omega)).mono ?_
          rintro e w6 ⟨v6, rfl, r6, b7⟩
          replace b1 := below_both b1 (below_both b6 b7)
          clear b6 b7
          go_wp2_with fail
          refine (tail _ _ _ _ _ (Nat.succ_pos _) (by decide) (by decide) r6 (by omega) (by omega) hp'.out).mono ?_
          rintro e w9 ⟨rfl, b9⟩
          replace b1 := below_both b1 b9
          go_wp2
          go_ret
          exact ⟨rfl, b1⟩
        · rw [if_neg (by intro h; rcases h.2 with h | h <;> omega)] at hp
          go_wp2_with fail
          refine (rbits_num rN (by omega)).mono ?_
          rintro e w4 ⟨rfl, b4⟩
          replace rN := rN.behind b4
          replace b1 := below_both b1 b4
          clear b4
          go_wp2_with fail
          refine (tail _ _ _ _ _ hNp (by decide) (by decide) rN (by omega) hc2 hp).mono ?_
          rintro e w9 ⟨rfl, b9⟩
          replace b1 := below_both b1 b9
          go_wp2
          go_ret
          exact ⟨rfl, b1⟩
end Go.Proofs.Ytcgdiodpniiegaa
