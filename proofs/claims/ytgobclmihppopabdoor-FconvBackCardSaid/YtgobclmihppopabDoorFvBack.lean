/- vernierlaw13.FconvBack, walked. -/
import Derived.Test.YtgobclmihppopabDoorFvWhole
import Derived.Test.YtgobclmihppopabDoorDyBox
namespace Go.Proofs.YtgobclmihppopabDoor
open Go.RowKit Go.Shelf
theorem tld_fits {a : Nat} (hc : cls a ≤ 1) : fits (tld (neg6 a) (sig a) (xpo a)) = true ∧ mayB 1 (xpo a) = true ∧ (tld (neg6 a) (sig a) (xpo a)).n < 18446744073709551616 := by
  obtain ⟨x1, x2⟩ := xpo_range06 a
  have hsl : sig a < 9007199254740992 := by
    have := ff_lt a
    unfold sig; split <;> omega
  refine ⟨?_, mayB_iff.2 ⟨by omega, by omega, by decide⟩, ?_⟩
  · by_cases h0 : sig a = 0
    · rw [h0, tld_zero]; exact fits_zero
    · rw [tld_pos _ h0, fits_iff]
      have htz := tz_lt (N := sig a) (k := 53) h0 hsl
      have hle : sig a / 2 ^ tz (sig a) ≤ sig a := Nat.div_le_self _ _
      have hd := digs_length (B := 18446744073709551616) (n := sig a / 2 ^ tz (sig a)) (k := 1) (by decide) (by rw [Nat.pow_one]; omega)
      dsimp only
      exact ⟨by omega, by omega, by omega⟩
  · by_cases h0 : sig a = 0
    · rw [h0, tld_zero]; decide
    · rw [tld_pos _ h0]
      have hle : sig a / 2 ^ tz (sig a) ≤ sig a := Nat.div_le_self _ _
      dsimp only
      omega
theorem word_num {W : World} {g u : Nat} (hu : u < 18446744073709551616) (G : Cs W g #[.int .u64 (u : Int)] 22) : Num W (.slice (some ⟨g, 0, none⟩) 1 1) u 1 :=
  ⟨[u], ⟨g, G.lt, .inr ⟨0, 1, rfl, Nat.le_refl 1, fun j hj => by
    obtain rfl : j = 0 := by simp at hj; omega
    exact G.cell (i := 0) rfl⟩⟩, fun x hx => by simp at hx; omega, by simp [val], Nat.le_refl 1⟩
set_option maxRecDepth 100000 in
set_option maxHeartbeats 8000000 in
theorem fconv_to_fin {a : Nat} {w : World} (ha : (a : Int) ≤ 18446744073709551615) (hT : TabOk w) (hc : cls a ≤ 1) :
    Calls Tryd.prog 5 #[.int .u64 (a : Int)] w fun e W' => ∃ (s : Bool) (b : Option Addr) (m c M t : Nat) (x : Int), e = .returned (.tuple #[.agg #[.bool s, .slice b m c, .int .i64 x], .int .i64 0]) ∧ Num W' (.slice b m c) M 64 ∧ mayV m x = true ∧ ((sig a = 0 ∧ M = 0) ∨ (M ≠ 0 ∧ s = neg6 a ∧ sig a = M * 2 ^ t ∧ x = xpo a + t)) ∧ Below w.heap.size w W' := by
  obtain ⟨t1, t2, t3⟩ := tld_fits hc
  have hS := fun u => psplit_fin1 (w := u) ha (cls_fin.1 hc)
  have hsl : sig a < 18446744073709551616 := by
    have := ff_lt a
    unfold sig; split <;> omega
  have hpl : ∀ (M : Nat) (s : Bool) (x : Int), tld (neg6 a) (sig a) (xpo a) = ⟨s, M, x⟩ → ∃ t : Nat, (sig a = 0 ∧ M = 0) ∨ (M ≠ 0 ∧ s = neg6 a ∧ sig a = M * 2 ^ t ∧ x = xpo a + t) := by
    intro M s x h
    by_cases h0 : sig a = 0
    · rw [h0, tld_zero] at h
      simp only [Dn.mk.injEq] at h
      exact ⟨0, .inl ⟨h0, h.2.1.symm⟩⟩
    · rw [tld_pos _ h0] at h
      simp only [Dn.mk.injEq] at h
      obtain ⟨rfl, rfl, rfl⟩ := h
      refine ⟨tz (sig a), .inr ⟨?_, rfl, tz_back.symm, rfl⟩⟩
      intro h1
      have := tz_odd_part h0
      omega
  have hN := fun (u : World) (g : Nat) (G : Cs u g #[.int .u64 (sig a : Int)] 22) (hT : TabOk u) => dnorm (s := neg6 a) (E := xpo a) (word_num hsl G) hT
  have hr : resD (mayB 1 (xpo a)) (tld (neg6 a) (sig a) (xpo a)) = tld (neg6 a) (sig a) (xpo a) ∧ resE (mayB 1 (xpo a)) (tld (neg6 a) (sig a) (xpo a)) = 0 := by
    rw [t2]
    refine ⟨?_, ?_⟩
    · show outD _ = _
      rw [outD, if_pos t1]
    · show outE _ = _
      rw [outE, if_pos t1]
  rw [hr.1, hr.2] at hN
  have ht := (fits_iff.1 t1)
  have hmv : ∀ (M m : Nat) (s : Bool) (x : Int), tld (neg6 a) (sig a) (xpo a) = ⟨s, M, x⟩ → m ≤ 1 → M < 18446744073709551616 ∧ mayV m x = true := by
    intro M m s x h hm
    rw [h] at ht t3
    exact ⟨t3, mayV_iff.2 ⟨ht.1, ht.2.1, by omega⟩⟩
  have HPL := Lib.hid hpl
  have HMV := Lib.hid hmv
  have hbx := fun W => dbox1 W #[.bool false, .slice none 0 0, .int .i64 0] 26
  have hby := fun W => dbox1 W #[.int .u64 (sig a : Int)] 22
  clear t1 t2 t3 hr ht hmv hpl
  generalize tld (neg6 a) (sig a) (xpo a) = R at *
  generalize neg6 a = s at *
  generalize xpo a = x at *
  generalize hsg : sig a = m at *
  have hmi : (m : Int) ≤ 18446744073709551615 := by omega
  clear hsl
  go_enter Tryd.func5, Tryd.ntmps5
  go_wp2_with fail
  obtain ⟨hB, G, hsz⟩ := hbx w _ rfl
  generalize (w.alloc (.cells #[.bool false, .slice none 0 0, .int .i64 0] 26)) = W0 at hB G hsz ⊢
  refine (hS _).mono ?_
  rintro e w1 ⟨rfl, rfl⟩
  clear hS hbx
  go_wp2_with fail
  obtain ⟨b1, S, z1⟩ := hby W0 _ rfl
  generalize (W0.alloc (.cells #[.int .u64 (m : Int)] 22)) = W1 at b1 S z1 ⊢
  rw [hsz] at S
  have B1 := below_both hB b1
  have R0 := G.behind b1
  have hn := hN W1 _ S (hT.behind B1)
  clear hN hby
  refine hn.mono ?_
  rintro e w3 ⟨ta, tm, tc, ts, tn, tx, tq, rfl, nt, b3, hR, hQ⟩
  have B3 := below_both B1 b3
  have R0 := R0.behind b3
  have HR := Lib.hid hR
  subst hQ
  clear hR
  have r0 := R0.cell (i := 0) rfl
  have r1 := R0.cell (i := 1) rfl
  have r2 := R0.cell (i := 2) rfl
  have f0 := R0.f 0
  have f1 := R0.f 1
  have f2 := R0.f 2
  have htn := (HMV.out tn 0 ts tx HR.out (Nat.zero_le 1)).1
  have hlen : tm ≤ 1 := by
    obtain ⟨S', hr, _, _⟩ := nt
    obtain ⟨a', cap', hv, _, _⟩ := hr.slice
    simp only [Value.slice.injEq] at hv
    rw [hv.2.1]
    exact digs_length (by decide) (by rw [Nat.pow_one]; exact htn)
  have HMV2 := Lib.hid (HMV.out tn tm ts tx HR.out hlen).2
  have HTN := Lib.hid (show tn < 18446744073709551616 ^ 64 from Nat.lt_of_lt_of_le htn (by rw [show (18446744073709551616 : Nat) = 18446744073709551616 ^ 1 from rfl, ← Nat.pow_mul]; exact Nat.pow_le_pow_right (by decide) (by decide)))
  have hP := HPL.out tn ts tx HR.out
  have HP := Lib.hid hP
  have hlt : w.heap.size < W1.heap.size := by omega
  have HLT := Lib.hid hlt
  clear hP htn hlen hlt HMV HPL
  go_wp2
  obtain ⟨t, ht⟩ := HP.out
  exact bodyPost_ret (v := .tuple #[.agg #[.bool ts, .slice ta tm tc, .int .i64 tx], .int .i64 0]) (by simp [results, Tryd.results5, go_sem, r0, r1, r2]) rfl
    ⟨ts, ta, tm, tc, tn, t, tx, rfl, (((nt.put HLT.out _).put HLT.out _).put HLT.out _).num HTN.out, HMV2.out, ht, set3 B3 (Nat.le_refl _) _ _ _⟩
theorem fconv_to_no {a : Nat} {w : World} (ha : (a : Int) ≤ 18446744073709551615) (hT : TabOk w) (hc : 2 ≤ cls a) :
    Calls Tryd.prog 5 #[.int .u64 (a : Int)] w fun e W' => ∃ (s : Bool) (b : Option Addr) (c : Nat) (x : Int), e = .returned (.tuple #[.agg #[.bool s, .slice b 0 c, .int .i64 x], .int .i64 23]) ∧ Below w.heap.size w W' := by
  have hfe : fe a = 2047 := by
    refine Classical.byContradiction fun h => ?_
    have := cls_fin.2 h
    omega
  have hS := fun u => psplit_inf1 (w := u) ha hfe
  have hbx := fun W => dbox1 W #[.bool false, .slice none 0 0, .int .i64 0] 26
  clear hc hfe
  go_enter Tryd.func5, Tryd.ntmps5
  go_wp2_with fail
  obtain ⟨hB, G, hsz⟩ := hbx w _ rfl
  generalize (w.alloc (.cells #[.bool false, .slice none 0 0, .int .i64 0] 26)) = W0 at hB G hsz ⊢
  refine (hS _).mono ?_
  rintro e w1 ⟨rfl, rfl⟩
  have r0 := G.cell (i := 0) rfl
  have r1 := G.cell (i := 1) rfl
  have r2 := G.cell (i := 2) rfl
  have f0 := G.f 0
  have f1 := G.f 1
  have f2 := G.f 2
  go_wp2
  exact bodyPost_ret (v := .tuple #[.agg #[.bool false, .slice none 0 0, .int .i64 0], .int .i64 23]) (by simp [results, Tryd.results5, go_sem, r0, r1, r2]) rfl ⟨false, none, 0, 0, rfl, set3 hB (Nat.le_refl _) _ _ _⟩
theorem back_is {a M t : Nat} {x mode : Int} {s : Bool} (ha : a < 18446744073709551616) (hc : cls a ≤ 1) (hM : M ≠ 0) (hs : s = neg6 a) (h1 : sig a = M * 2 ^ t) (h2 : x = xpo a + t) : rnd s M 1 x mode = (a, 0) := by
  subst hs
  have h0 : sig a ≠ 0 := by
    rw [h1]
    exact Nat.ne_of_gt (Nat.mul_pos (Nat.pos_of_ne_zero hM) (Nat.two_pow_pos t))
  exact rnd_is (k := t) ha (cls_fin.1 hc) h0 (.inr ⟨h1.symm, h2⟩)
set_option maxRecDepth 100000 in
set_option maxHeartbeats 8000000 in
theorem fconvBack_calls {a : Nat} {mode : Int} {w : World} (ha : (a : Int) ≤ 18446744073709551615) (hT : TabOk w) :
    Calls Tryd.prog 3 #[.int .u64 (a : Int), .int .i64 mode] w fun e W' => e = .returned (.bool true) ∧ Below w.heap.size w W' := by
  have hc := fun w => class6 (W := w) ha
  have hcl := cls_le a
  have hbs := fun (W : World) (s : Bool) (a : Option Addr) (m c : Nat) (x : Int) => vbox W #[.bool s, .slice a m c, .int .i64 x] 26
  by_cases h1 : cls a ≤ 1
  · have hto := fun w hT => fconv_to_fin (w := w) ha hT h1
    have d1 : decide ((1 : Int) < (cls a : Int)) = false := decide_eq_false (by omega)
    have hbk := fun (M t : Nat) (x : Int) (s : Bool) => back_is (a := a) (M := M) (t := t) (x := x) (mode := mode) (s := s) (by omega) h1
    have hz : sig a = 0 → a = 0 ∨ a = 9223372036854775808 := by
      intro h
      have := (sig_zero (by omega) h).1
      rw [this]
      cases neg6 a
      · exact .inl rfl
      · exact .inr rfl
    have HBK := Lib.hid hbk
    have HZ := Lib.hid hz
    have HTO := Lib.hid hto
    clear hbk hz hto h1 hcl
    generalize cls a = c at *
    go_enter Tryd.func3, Tryd.ntmps3
    go_wp2_with fail
    refine (valive _).mono ?_
    rintro e w1 ⟨rfl, b1⟩
    go_wp2_with fail
    refine (HTO.out _ (hT.behind b1)).mono ?_
    rintro e w2 ⟨s, b, m, k, M, t, x, rfl, hN, hmv, hd, b2⟩
    have HD := Lib.hid hd
    have HM := Lib.hid hmv
    replace b1 := below_both b1 b2
    clear b2 hd hmv HTO hT
    obtain ⟨bx, G1⟩ := hbs w2 s b m k x _ rfl
    replace hN := hN.behind bx
    replace b1 := below_both b1 bx
    clear bx hbs
    have c00 := G1.cell (i := 0) rfl
    have c01 := G1.cell (i := 1) rfl
    have c02 := G1.cell (i := 2) rfl
    go_wp2_with fail
    refine (hc _).mono ?_
    rintro e w3 ⟨rfl, rfl⟩
    go_wp2_with fail
    -- what FromDyadic tells of it
    have hfr : Calls Tryd.prog 7 #[.agg #[.bool s, .slice b m k, .int .i64 x], .int .i64 mode] (w2.alloc (.cells #[.bool s, .slice b m k, .int .i64 x] 26)) fun e W' => ∃ Z : Nat, e = .returned (.tuple #[.int .u64 (Z : Int), .int .i64 0, .int .i64 0]) ∧ (Z = a ∨ (Z = 0 ∨ Z = 9223372036854775808) ∧ (a = 0 ∨ a = 9223372036854775808)) ∧ Below (w2.alloc (.cells #[.bool s, .slice b m k, .int .i64 x] 26)).heap.size (w2.alloc (.cells #[.bool s, .slice b m k, .int .i64 x] 26)) W' := by
      refine (fconv_from (s := s) (mode := mode) hN (by decide) (by have := (mayV_iff.1 HM.out).1; omega) (by have := (mayV_iff.1 HM.out).2.1; omega)).mono ?_
      rintro e w4 ⟨Z, F, q, rfl, _, h5, b4⟩
      obtain ⟨rfl, h6, h7⟩ := h5 HM.out
      rcases HD.out with ⟨g1, g2⟩ | ⟨g1, g2, g3, g4⟩
      · obtain ⟨rfl, hz⟩ := h6 g2
        exact ⟨Z, rfl, .inr ⟨hz, HZ.out g1⟩, b4⟩
      · have := h7 g1
        rw [HBK.out M t x s g1 g2 g3 g4] at this
        simp only [Prod.mk.injEq] at this
        obtain ⟨rfl, rfl⟩ := this
        exact ⟨a, rfl, .inl rfl, b4⟩
    refine hfr.mono ?_
    rintro e w4 ⟨Z, rfl, hz, b4⟩
    replace b1 := below_both b1 b4
    clear hfr hc c00 c01 c02 G1 hN b4
    rcases hz with rfl | ⟨rfl | rfl, rfl | rfl⟩
    all_goals
      go_wp2
      go_ret
      exact ⟨rfl, b1⟩
  · have hto := fun w hT => fconv_to_no (w := w) ha hT (by omega)
    have d1 : decide ((1 : Int) < (cls a : Int)) = true := decide_eq_true (by omega)
    have HTO := Lib.hid hto
    clear hto h1 hcl
    generalize cls a = c at *
    go_enter Tryd.func3, Tryd.ntmps3
    go_wp2_with fail
    refine (valive _).mono ?_
    rintro e w1 ⟨rfl, b1⟩
    go_wp2_with fail
    refine (HTO.out _ (hT.behind b1)).mono ?_
    rintro e w2 ⟨s, b, k, x, rfl, b2⟩
    replace b1 := below_both b1 b2
    clear b2 HTO hT
    obtain ⟨bx, G1⟩ := hbs w2 s b 0 k x _ rfl
    replace b1 := below_both b1 bx
    clear bx hbs
    have c01 := G1.cell (i := 1) rfl
    go_wp2_with fail
    refine (hc _).mono ?_
    rintro e w3 ⟨rfl, rfl⟩
    clear hc
    go_wp2
    go_ret
    exact ⟨rfl, b1⟩
end Go.Proofs.YtgobclmihppopabDoor
