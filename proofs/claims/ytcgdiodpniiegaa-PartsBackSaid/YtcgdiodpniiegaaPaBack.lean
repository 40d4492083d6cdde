/- vernierlaw06.PartsBack, walked. -/
import Derived.Test.YtcgdiodpniiegaaPaLaw
namespace Go.Proofs.Ytcgdiodpniiegaa
open Go.RowKit Go.Shelf
theorem pex_false {neg : Bool} {m : Nat} {exp : Int} (h : (pex neg m exp).2 = false) : (pex neg m exp).1 = 0 := by
  unfold pex at h ⊢
  by_cases h1 : exp < -16384 ∨ 16384 < exp
  · rw [if_pos h1]
  · rw [if_neg h1] at h ⊢
    by_cases h0 : m = 0
    · rw [if_pos h0] at h; exact Bool.noConfusion h
    · rw [if_neg h0] at h ⊢
      by_cases hf : (rnd neg m 1 exp 0).2 = 0
      · rw [if_pos hf] at h; exact Bool.noConfusion h
      · rw [if_neg hf]
theorem sig_lt (a : Nat) : sig a < 18446744073709551616 := by
  have h := ff_lt a
  unfold sig
  split <;> omega
theorem xpo_range (a : Nat) : -1074 ≤ xpo a ∧ xpo a ≤ 972 := by
  have h := fe_lt a
  unfold xpo
  split <;> omega
set_option maxRecDepth 100000 in
set_option maxHeartbeats 4000000 in
theorem partsBack_calls {a m : Nat} {neg : Bool} {exp : Int} {w : World} (ha : (a : Int) ≤ 18446744073709551615) (hm : (m : Int) ≤ 18446744073709551615) (h1 : -9223372036854775808 ≤ exp) (h2 : exp ≤ 9223372036854775807) :
    Calls Try.prog 5 #[.int .u64 (a : Int), .bool neg, .int .u64 (m : Int), .int .i64 exp] w fun e W' => e = .returned (.bool true) ∧ Below w.heap.size w W' := by
  have hx := fun w => pexact (neg := neg) (w := w) hm h1 h2
  have HF := Lib.hid (pex_false (neg := neg) (m := m) (exp := exp))
  have HT := Lib.hid (pex_is (neg := neg) (m := m) (exp := exp))
  have HB : Hid (((pex neg m exp).1 : Int) ≤ 18446744073709551615) := Lib.hid (by have := pex_lt neg m exp; omega)
  have HNL := Lib.hid (sig_lt (pex neg m exp).1)
  generalize pex neg m exp = p at *
  obtain ⟨b, ok⟩ := p
  dsimp only at *
  by_cases hc : fe a = 2047
  · go_enter Try.func5, Try.ntmps5
    go_wp2_with fail
    refine (palive _).mono ?_
    rintro e w1 ⟨rfl, b1⟩
    go_wp2_with fail
    refine (psplit_inf ha hc).mono ?_
    rintro e w2 ⟨rfl, b2⟩
    replace b1 := below_both b1 b2
    clear b2
    go_wp2_with fail
    refine (hx _).mono ?_
    rintro e wz ⟨rfl, b2⟩
    replace b1 := below_both b1 b2
    clear b2 hx
    cases ok
    · have hb0 := HF.out rfl
      subst hb0
      go_wp2
      go_ret
      exact ⟨rfl, b1⟩
    · obtain ⟨k1, k2, k3, k4, k5⟩ := HT.out rfl
      have hbl := HB.out
      generalize hy : xpo b = y at *
      generalize hn : sig b = n at *
      have HY := Lib.hid hy
      have HN := Lib.hid hn
      obtain ⟨s1, hs1⟩ : ∃ s1 : Nat, s1 = (y - min y exp).toNat := ⟨_, rfl⟩
      obtain ⟨s2, hs2⟩ : ∃ s2 : Nat, s2 = (exp - min y exp).toNat := ⟨_, rfl⟩
      rw [← hs1, ← hs2] at k1
      have HK := Lib.hid k1
      have e1 : min (y - min y exp) 40000 = (s1 : Int) := by omega
      have e2 : min (exp - min y exp) 40000 = (s2 : Int) := by omega
      have E1 := Lib.hid e1
      have E2 := Lib.hid e2
      have hs1' : s1 ≤ 65536 := by omega
      have hs2' : s2 ≤ 65536 := by omega
      have hnl : n < 18446744073709551616 := by exact HNL.out
      have NL := Lib.hid hnl
      clear hy hn hs1 hs2 k1 e1 e2 hnl
      have hsp := split6 (a := b) (W := wz) hbl
      rw [HY.out, HN.out] at hsp
      clear hbl
      go_wp2_with fail
      refine hsp.mono ?_
      rintro e w5 ⟨rfl, rfl⟩
      clear hsp
      go_wp2_with fail
      refine (word6 NL.out).mono ?_
      rintro e w6 ⟨v6, rfl, r6, b2⟩
      replace b1 := below_both b1 b2
      clear b2
      go_wp2_with fail
      rw [E1.out]
      refine (rshl_num r6 (by omega) hs1').mono ?_
      rintro e w7 ⟨v7, rfl, r7, b2⟩
      replace b1 := below_both b1 b2
      clear b2 r6
      go_wp2_with fail
      refine (word6 (U := m) (by omega)).mono ?_
      rintro e w8 ⟨v8, rfl, r8, b2⟩
      replace b1 := below_both b1 b2
      replace r7 := r7.behind b2
      clear b2
      go_wp2_with fail
      rw [E2.out]
      refine (rshl_num r8 (by omega) hs2').mono ?_
      rintro e w9 ⟨v9, rfl, r9, b2⟩
      replace b1 := below_both b1 b2
      replace r7 := r7.behind b2
      clear b2 r8
      go_wp2_with fail
      refine (rcmpc r7 r9 (by omega) (by omega) (by rw [HK.out, cmpN_self])).mono ?_
      rintro e wa ⟨rfl, b2⟩
      replace b1 := below_both b1 b2
      go_wp2
      go_ret
      exact ⟨rfl, b1⟩
  · have hsl := sig_lt a
    have hsl' : (sig a : Int) ≤ 18446744073709551615 := by omega
    obtain ⟨x1, x2⟩ := xpo_range a
    have hx1 := fun w => pexact (neg := neg6 a) (w := w) hsl' (by omega : -9223372036854775808 ≤ xpo a) (by omega)
    have hx2 := fun w => pround (neg := neg6 a) (more := false) (mode := 0) (hi := 0) (w := w) (by omega) hsl' (by omega : -9223372036854775808 ≤ xpo a) (by omega)
    rw [pex_split (by omega) hc] at hx1
    rw [prnd_split (by omega) hc] at hx2
    dsimp only at hx1 hx2
    have hsp := fun w => psplit_fin (w := w) ha hc
    generalize neg6 a = sa at *
    generalize sig a = ma at *
    generalize xpo a = xa at *
    clear hsl hsl'
    go_enter Try.func5, Try.ntmps5
    go_wp2_with fail
    refine (palive _).mono ?_
    rintro e w1 ⟨rfl, b1⟩
    go_wp2_with fail
    refine (hsp _).mono ?_
    rintro e w2 ⟨rfl, b2⟩
    replace b1 := below_both b1 b2
    clear b2 hsp
    go_wp2_with fail
    refine (hx1 _).mono ?_
    rintro e w3 ⟨rfl, b2⟩
    replace b1 := below_both b1 b2
    clear b2 hx1
    go_wp2_with fail
    refine (hx2 _).mono ?_
    rintro e w4 ⟨rfl, b2⟩
    replace b1 := below_both b1 b2
    clear b2 hx2
    go_wp2_with fail
    refine (hx _).mono ?_
    rintro e wz ⟨rfl, b2⟩
    replace b1 := below_both b1 b2
    clear b2 hx
    cases ok
    · have hb0 := HF.out rfl
      subst hb0
      go_wp2
      go_ret
      exact ⟨rfl, b1⟩
    · obtain ⟨k1, k2, k3, k4, k5⟩ := HT.out rfl
      have hbl := HB.out
      generalize hy : xpo b = y at *
      generalize hn : sig b = n at *
      have HY := Lib.hid hy
      have HN := Lib.hid hn
      obtain ⟨s1, hs1⟩ : ∃ s1 : Nat, s1 = (y - min y exp).toNat := ⟨_, rfl⟩
      obtain ⟨s2, hs2⟩ : ∃ s2 : Nat, s2 = (exp - min y exp).toNat := ⟨_, rfl⟩
      rw [← hs1, ← hs2] at k1
      have HK := Lib.hid k1
      have e1 : min (y - min y exp) 40000 = (s1 : Int) := by omega
      have e2 : min (exp - min y exp) 40000 = (s2 : Int) := by omega
      have E1 := Lib.hid e1
      have E2 := Lib.hid e2
      have hs1' : s1 ≤ 65536 := by omega
      have hs2' : s2 ≤ 65536 := by omega
      have hnl : n < 18446744073709551616 := by exact HNL.out
      have NL := Lib.hid hnl
      clear hy hn hs1 hs2 k1 e1 e2 hnl
      have hsp := split6 (a := b) (W := wz) hbl
      rw [HY.out, HN.out] at hsp
      clear hbl
      go_wp2_with fail
      refine hsp.mono ?_
      rintro e w5 ⟨rfl, rfl⟩
      clear hsp
      go_wp2_with fail
      refine (word6 NL.out).mono ?_
      rintro e w6 ⟨v6, rfl, r6, b2⟩
      replace b1 := below_both b1 b2
      clear b2
      go_wp2_with fail
      rw [E1.out]
      refine (rshl_num r6 (by omega) hs1').mono ?_
      rintro e w7 ⟨v7, rfl, r7, b2⟩
      replace b1 := below_both b1 b2
      clear b2 r6
      go_wp2_with fail
      refine (word6 (U := m) (by omega)).mono ?_
      rintro e w8 ⟨v8, rfl, r8, b2⟩
      replace b1 := below_both b1 b2
      replace r7 := r7.behind b2
      clear b2
      go_wp2_with fail
      rw [E2.out]
      refine (rshl_num r8 (by omega) hs2').mono ?_
      rintro e w9 ⟨v9, rfl, r9, b2⟩
      replace b1 := below_both b1 b2
      replace r7 := r7.behind b2
      clear b2 r8
      go_wp2_with fail
      refine (rcmpc r7 r9 (by omega) (by omega) (by rw [HK.out, cmpN_self])).mono ?_
      rintro e wa ⟨rfl, b2⟩
      replace b1 := below_both b1 b2
      go_wp2
      go_ret
      exact ⟨rfl, b1⟩
end Go.Proofs.Ytcgdiodpniiegaa
