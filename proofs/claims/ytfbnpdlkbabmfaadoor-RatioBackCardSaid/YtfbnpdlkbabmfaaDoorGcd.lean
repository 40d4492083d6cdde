/- natdiv.Gcd over numbers. -/
import Derived.Test.YtfbnpdlkbabmfaaDoorOdd
import Derived.Test.YtfbnpdlkbabmfaaDoorDivMod
namespace Go.Proofs.YtfbnpdlkbabmfaaDoor
open Go.RowKit Go.Shelf

attribute [local go_sem] Oper.semAt_some

theorem odd_part {z y m n : Nat} (h : 2 ^ z * (2 * m + 1) = 2 ^ y * (2 * n + 1)) : z = y ∧ m = n := by
  have key : ∀ {z y m n : Nat}, z < y → 2 ^ z * (2 * m + 1) = 2 ^ y * (2 * n + 1) → False := by
    intro z y m n hlt h
    obtain ⟨d, rfl⟩ := Nat.exists_eq_add_of_lt hlt
    rw [show z + d + 1 = z + (d + 1) by omega, Nat.pow_add, Nat.mul_assoc] at h
    have h2 := Nat.eq_of_mul_eq_mul_left (Nat.pow_pos (by decide)) h
    rw [Nat.pow_succ, Nat.mul_comm (2 ^ d) 2, Nat.mul_assoc] at h2
    omega
  rcases Nat.lt_trichotomy z y with hlt | rfl | hlt
  · exact (key hlt h).elim
  · have h2 := Nat.eq_of_mul_eq_mul_left (Nat.pow_pos (by decide)) h
    exact ⟨rfl, by omega⟩
  · exact (key hlt h.symm).elim
theorem ZOf.is {N z : Nat} (h : ZOf N z) (h0 : N ≠ 0) : ∃ m, N = 2 ^ z * (2 * m + 1) := by
  rcases h with ⟨h, _⟩ | h
  · exact absurd h h0
  · exact h
theorem gcd_two {z y m n : Nat} : Nat.gcd (2 ^ z * (2 * m + 1)) (2 ^ y * (2 * n + 1)) = Nat.gcd (2 * m + 1) (2 * n + 1) * 2 ^ min z y := by
  have key : ∀ {z y m n : Nat}, z ≤ y → Nat.gcd (2 ^ z * (2 * m + 1)) (2 ^ y * (2 * n + 1)) = Nat.gcd (2 * m + 1) (2 * n + 1) * 2 ^ z := by
    intro z y m n hle
    obtain ⟨d, rfl⟩ := Nat.exists_eq_add_of_le hle
    rw [Nat.pow_add, Nat.mul_assoc, Nat.gcd_mul_left, Nat.mul_comm]
    have hc : Nat.Coprime (2 ^ d) (2 * m + 1) := by
      have h3 : Nat.Coprime 2 (2 * m + 1) := show Nat.gcd 2 (2 * m + 1) = 1 by
        rw [Nat.gcd_rec, show (2 * m + 1) % 2 = 1 by omega]; rfl
      exact Nat.Coprime.pow_left d h3
    congr 1
    rw [Nat.gcd_comm, hc.gcd_mul_left_cancel, Nat.gcd_comm]
  rcases Nat.le_total z y with h | h
  · rw [key h, Nat.min_eq_left h]
  · rw [Nat.gcd_comm, key h, Nat.min_eq_right h, Nat.gcd_comm]
set_option maxHeartbeats 1000000 in
/-- nat.Norm of a number that is not 0: a copy that may be written -/
theorem norm_own {w : World} {va : Value} {N i : Nat} (hA : Num w va N i) (hi : i ≤ 17592186044416) (h0 : N ≠ 0) :
    Calls Tryd.prog 42 #[va] w fun e w' => ∃ v' S, e = .returned v' ∧ Own w' S v' N ∧ w.heap.size ≤ S ∧ Below w.heap.size w w' := by
  obtain ⟨xs, ⟨b, hb, hI⟩, hx, rfl, hxl⟩ := hA
  have hcx : cutz xs = digs 18446744073709551616 (val 18446744073709551616 xs) := cutz_eq_digs (by decide) hx
  have ht := trim_calls b va xs (by omega) w hb hI
  rw [hcx] at ht
  have hpos : 0 < (digs 18446744073709551616 (val 18446744073709551616 xs)).length := by rw [digs_pos (by decide) h0]; simp
  have hle : (digs 18446744073709551616 (val 18446744073709551616 xs)).length ≤ 17592186044416 := by
    rw [← hcx]
    exact Nat.le_trans (Nat.le_trans (cutz_length xs) hxl) hi
  obtain ⟨aa, ca, rfl, _, _⟩ := hI.slice
  clear hcx hI
  generalize val 18446744073709551616 xs = N at *
  go_enter Tryd.func42, Tryd.ntmps42
  go_wp2_with fail
  refine ht.mono ?_
  rintro e w1 ⟨v1, rfl, hr1, hb1⟩
  clear ht
  obtain ⟨a1, c1, rfl, _, hs1⟩ := hr1.slice
  obtain ⟨o1, rfl⟩ := hs1 hpos
  have hcl := clone_wb b o1 c1 _ hpos hle w1 (Nat.lt_of_lt_of_le hb hb1.size) hr1
  go_wp2_with fail
  refine hcl.mono ?_
  rintro e w2 ⟨v2, S, rfl, hr2, hw2, hS2, hb2⟩
  go_wp2_with fail
  go_ret
  exact ⟨_, S, rfl, ⟨hr2, hw2⟩, Nat.le_trans hb1.size hS2, below_both hb1 hb2⟩
/-- odd of a number in memory of its own -/
theorem odd_own {w : World} {S N i : Nat} {v : Value} (h : Own w S v N) (hN : N < 18446744073709551616 ^ i) (hi : i ≤ 17592186044416) (h0 : N ≠ 0) (hT : TabOk w) (hTS : (0 : Nat) ≠ S) :
    Calls Tryd.prog 59 #[v] w fun e W' => ∃ (v' : Value) (z m : Nat), e = .returned v' ∧ N = 2 ^ z * (2 * m + 1) ∧ Own W' S v' (2 * m + 1) ∧ Off S w W' := by
  obtain ⟨off, cap, rfl, hcap, hseg⟩ := h.seg h0
  have hdl := digs_length (B := 18446744073709551616) (by decide) hN
  refine (odd_calls S off cap _ (by omega) hcap (digs_low (by decide) N) (by rw [val_digs (by decide)]; exact h0) w hT hTS hseg).mono ?_
  rintro e W' ⟨v, z, m, rfl, hval, hr, hwb, ho⟩
  rw [val_digs (by decide)] at hval
  exact ⟨v, z, m, rfl, hval, ⟨hr, hwb⟩, ho⟩
theorem divmod_rest {w : World} {va vb : Value} {X Y i j : Nat} (hA : Num w va X i) (hB : Num w vb Y j) (hi : i ≤ 4398046511104) (hj : j ≤ 4398046511104) (hY : Y ≠ 0) (hle : Y ≤ X) :
    Calls Tryd.prog 50 #[va, vb] w fun e W' => ∃ q r S, e = .returned (.tuple #[q, r, .int .i64 0]) ∧ Own W' S r (X % Y) ∧ w.heap.size ≤ S ∧ Below w.heap.size w W' := by
  obtain ⟨xs, ⟨ba, hba, hIa⟩, hx, rfl, hxl⟩ := hA
  obtain ⟨ys, ⟨bb, hbb, hIb⟩, hy, rfl, hyl⟩ := hB
  have hb0 : 0 < (cutz ys).length := by
    rw [List.length_pos_iff]
    intro h
    have := val_cutz 18446744073709551616 ys
    rw [h] at this
    exact hY this.symm
  rw [← val_cutz 18446744073709551616 xs, ← val_cutz 18446744073709551616 ys] at hle ⊢
  have hab := low_length_le (B := 18446744073709551616) (by decide) (cutz_low hx) (cutz_cutz ys) hle
  exact (callsIn_wide.1 (divmod_own 9 (Nat.le_refl _) ba bb va vb xs ys _ _ (by omega) (by omega) hx hy rfl rfl hb0 hab w hba hbb hIa hIb)).mono fun _ _ ⟨q, r, he, _, ⟨S, h1, h3⟩, hB⟩ => ⟨q, r, S, he, h1, h3, hB⟩
end Go.Proofs.YtfbnpdlkbabmfaaDoor

/- natdiv.Gcd, walked. -/
namespace Go.Proofs.YtfbnpdlkbabmfaaDoor
open Go.RowKit Go.Shelf

attribute [local go_sem] Oper.semAt_some

set_option maxRecDepth 100000 in
set_option maxHeartbeats 4000000 in
theorem gcd_calls {w : World} {va vb : Value} {M N i : Nat} (hA : Num w va M i) (hB : Num w vb N i) (hi : i ≤ 4398046511104) (hT : TabOk w) :
    Calls Tryd.prog 40 #[va, vb] w fun e W' => ∃ v, e = .returned v ∧ New w.heap.size W' v (digs 18446744073709551616 (Nat.gcd M N)) ∧ Below w.heap.size w W' := by
  have HI := Lib.hid hi
  obtain ⟨aa, la, ca, rfl⟩ := hA.slice
  obtain ⟨ab, lb, cb, rfl⟩ := hB.slice
  by_cases hlt : M < N
  · have hc := cmp_is hA hB (by omega) (by omega) (cmpN_lt hlt)
    have hle : M ≤ N := Nat.le_of_lt hlt
    clear hlt
    go_enter Tryd.func40, Tryd.ntmps40
    go_wp2_with fail
    refine hc.mono ?_
    rintro e w1 ⟨rfl, b1⟩
    have hA1 := hA.behind b1
    have hB1 := hB.behind b1
    clear hc hA hB
    have HLE := Lib.hid hle
    clear hle
    by_cases hY0 : M = 0
    · subst hY0
      go_wp2_with fail
      refine (divmod_zero hB1 hA1 HI.out HI.out).mono ?_
      rintro e w2 ⟨rfl, b2⟩
      go_wp2_with fail
      refine (norm_num (hB1.behind b2) (by omega)).mono ?_
      rintro e w3 ⟨v, rfl, _, nv, b3⟩
      go_wp2_with fail
      go_ret
      refine ⟨_, rfl, ?_, below_both (below_both b1 b2) b3⟩
      have nv := nv.from_ (Nat.le_trans b1.size b2.size)
      simpa using nv
    · have HY := Lib.hid hY0
      have hYl := hA1.lt
      go_wp2_with fail
      refine (divmod_rest hB1 hA1 HI.out HI.out hY0 HLE.out).mono ?_
      rintro e w2 ⟨q, r, S, rfl, hr, hS, b2⟩
      have hYB := hA1.behind b2
      have HRL : Hid (N % M < 18446744073709551616 ^ i) := Lib.hid (Nat.lt_of_lt_of_le (Nat.mod_lt _ (Nat.pos_of_ne_zero hY0)) (Nat.le_of_lt hYl))
      have HYL := Lib.hid hYl
      have hgr : Hid (Nat.gcd M N = Nat.gcd M (N % M)) := Lib.hid (((Nat.gcd_rec M N).trans (Nat.gcd_comm _ _)))
      clear hY0 hYl
      generalize N % M = R at *
      obtain ⟨ra, rc, rfl, _⟩ := hr.1.slice
      by_cases hR0 : R = 0
      · subst hR0
        rw [digs_zero] at hr ⊢
        simp only [List.length_nil] at hr ⊢
        go_wp2_with fail
        refine (norm_num hYB (by omega)).mono ?_
        rintro e w3 ⟨v, rfl, _, nv, b3⟩
        go_wp2_with fail
        go_ret
        refine ⟨_, rfl, ?_, below_both (below_both b1 b2) b3⟩
        have nv := nv.from_ (Nat.le_trans b1.size b2.size)
        rw [hgr.out, Nat.gcd_zero_right]
        exact nv
      · have hlen : ((((digs 18446744073709551616 R).length : Nat) : Int) == 0) = false := beq_eq_false_iff_ne.2 (by rw [digs_pos (by decide) hR0]; simp; omega)
        have HR := Lib.hid hR0
        clear hR0
        have hT2 := (hT.behind b1).behind b2
        go_wp2_with fail
        refine (zeros_num hYB (by omega) hT2).mono ?_
        rintro e w3 ⟨z1, rfl, ⟨hz1, hzl1⟩, b3⟩
        have HZ1 := Lib.hid hz1
        have HL1 := Lib.hid hzl1
        have hr3 := hr.behind b3
        have hT3 := hT2.behind b3
        clear hz1 hzl1
        go_wp2_with fail
        refine (zeros_num (hr3.num HRL.out) (by omega) hT3).mono ?_
        rintro e w4 ⟨z2, rfl, ⟨hz2, hzl2⟩, b4⟩
        have HZ2 := Lib.hid hz2
        have hr4 := hr3.behind b4
        have hT4 := hT3.behind b4
        have hY4 := (hYB.behind b3).behind b4
        clear hz2 hzl2
        have hmin : min (z1 : Int) (z2 : Int) = ((min z1 z2 : Nat) : Int) := by omega
        have hmc : min z1 z2 ≤ 281474976710656 := Nat.le_trans (Nat.min_le_left _ _) (Nat.le_trans HL1.out (by omega))
        have HMN : Hid (min z1 z2 = min z1 z2) := Lib.hid rfl
        generalize hzz : min z1 z2 = zz at hmin hmc
        have HZZ := Lib.hid hzz
        clear hzz HMN
        go_wp2_with fail
        refine (norm_own hY4 (by omega) HY.out).mono ?_
        rintro e w5 ⟨v5, S5, rfl, ow5, hS5, b5⟩
        have hT5 := hT4.behind b5
        have hr5 := hr4.behind b5
        have hSl := hr4.2.lt
        have hTl := hT.lt
        have hsz1 := b1.size
        have hsz2 := b2.size
        have hsz3 := b3.size
        have hsz4 := b4.size
        have hsz5 := b5.size
        have B5 := below_both (below_both (below_both (below_both b1 b2) b3) b4) b5
        clear b1 b2 b3 b4 b5 hYB hY4 hr hr3 hr4 hB1 hA1
        go_wp2_with fail
        refine (odd_own ow5 HYL.out (by omega) HY.out hT5 (by omega)).mono ?_
        rintro e w6 ⟨v6, y1, m1, rfl, he1, ow6, ho6⟩
        have hr6 := hr5.off ho6 (by omega)
        have hT6 := hT5.off ho6 (by omega)
        have B6 := Off.to_below B5 ho6 (by omega) B5.size
        have HE1 := Lib.hid he1
        clear he1 ow5 hr5 ho6
        go_wp2_with fail
        refine (odd_own hr6 HRL.out (by omega) HR.out hT6 (by omega)).mono ?_
        rintro e w7 ⟨v7, y2, m2, rfl, he2, ow7, ho7⟩
        have ow67 := ow6.off ho7 (by omega)
        have hT7 := hT6.off ho7 (by omega)
        have B7 := Off.to_below B6 ho7 (by omega) B6.size
        have HE2 := Lib.hid he2
        have hl1 : 2 * m1 + 1 < 18446744073709551616 ^ i := Nat.lt_of_le_of_lt (Nat.le_trans (Nat.le_mul_of_pos_left _ (Nat.pow_pos (by decide))) (Nat.le_of_eq HE1.out.symm)) HYL.out
        have hl2 : 2 * m2 + 1 < 18446744073709551616 ^ i := Nat.lt_of_le_of_lt (Nat.le_trans (Nat.le_mul_of_pos_left _ (Nat.pow_pos (by decide))) (Nat.le_of_eq HE2.out.symm)) HRL.out
        have htwo : Two w.heap.size i (Nat.gcd (2 * m1 + 1) (2 * m2 + 1)) w7 w7 v6 v7 S5 S (2 * m1 + 1) (2 * m2 + 1) :=
          ⟨ow67, ow7, by omega, by omega, by omega, by omega, by omega, hl1, hl2, rfl, hT7, hTl, Below.refl _ _, B7.size⟩
        have hgl : Hid (Nat.gcd (2 * m1 + 1) (2 * m2 + 1) < 18446744073709551616 ^ i) := Lib.hid (Nat.lt_of_le_of_lt (Nat.gcd_le_left _ (by omega)) hl1)
        have hge : Hid (Nat.gcd (2 * m1 + 1) (2 * m2 + 1) * 2 ^ zz = Nat.gcd M N) := Lib.hid (by
          obtain ⟨n1, e1⟩ := HZ1.out.is HY.out
          obtain ⟨n2, e2⟩ := HZ2.out.is HR.out
          obtain ⟨rfl, rfl⟩ := odd_part (HE1.out.symm.trans e1)
          obtain ⟨rfl, rfl⟩ := odd_part (HE2.out.symm.trans e2)
          rw [hgr.out, ← HZZ.out, ← gcd_two, ← e1, ← e2])
        clear hl1 hl2 ow6 ow67 ow7 ho7 he2 hr6
        generalize Nat.gcd (2 * m1 + 1) (2 * m2 + 1) = G at htwo hgl hge
        have HTW := Lib.hid htwo
        clear htwo
        go_wp2_with fail
        refine (oddGcd_calls HTW.out (by omega)).mono ?_
        rintro e w8 ⟨v8, S8, rfl, hS8, ow8, b8, _⟩
        have B8 := B7.trans b8
        go_wp2_with fail
        refine (raise_num (ow8.num hgl.out) (by omega) hmc).mono ?_
        rintro e w9 ⟨v9, rfl, nv, b9⟩
        rw [hge.out] at nv
        go_wp2_with fail
        go_ret
        exact ⟨_, rfl, nv.from_ B8.size, B8.trans (b9.mono B8.size)⟩
  · obtain ⟨c, hc, hc0⟩ : ∃ c, cmpN M N = c ∧ 0 ≤ c := by
      refine ⟨_, rfl, ?_⟩
      unfold cmpN
      rw [if_neg hlt]
      split <;> omega
    have hc := cmp_is hA hB (by omega) (by omega) hc
    have hle : N ≤ M := by omega
    clear hlt
    go_enter Tryd.func40, Tryd.ntmps40
    go_wp2_with fail
    refine hc.mono ?_
    rintro e w1 ⟨rfl, b1⟩
    have hA1 := hA.behind b1
    have hB1 := hB.behind b1
    clear hc hA hB
    have HLE := Lib.hid hle
    clear hle
    by_cases hY0 : N = 0
    · subst hY0
      go_wp2_with fail
      refine (divmod_zero hA1 hB1 HI.out HI.out).mono ?_
      rintro e w2 ⟨rfl, b2⟩
      go_wp2_with fail
      refine (norm_num (hA1.behind b2) (by omega)).mono ?_
      rintro e w3 ⟨v, rfl, _, nv, b3⟩
      go_wp2_with fail
      go_ret
      refine ⟨_, rfl, ?_, below_both (below_both b1 b2) b3⟩
      have nv := nv.from_ (Nat.le_trans b1.size b2.size)
      simpa using nv
    · have HY := Lib.hid hY0
      have hYl := hB1.lt
      go_wp2_with fail
      refine (divmod_rest hA1 hB1 HI.out HI.out hY0 HLE.out).mono ?_
      rintro e w2 ⟨q, r, S, rfl, hr, hS, b2⟩
      have hYB := hB1.behind b2
      have HRL : Hid (M % N < 18446744073709551616 ^ i) := Lib.hid (Nat.lt_of_lt_of_le (Nat.mod_lt _ (Nat.pos_of_ne_zero hY0)) (Nat.le_of_lt hYl))
      have HYL := Lib.hid hYl
      have hgr : Hid (Nat.gcd M N = Nat.gcd N (M % N)) := Lib.hid ((Nat.gcd_comm M N).trans ((Nat.gcd_rec N M).trans (Nat.gcd_comm _ _)))
      clear hY0 hYl
      generalize M % N = R at *
      obtain ⟨ra, rc, rfl, _⟩ := hr.1.slice
      by_cases hR0 : R = 0
      · subst hR0
        rw [digs_zero] at hr ⊢
        simp only [List.length_nil] at hr ⊢
        go_wp2_with fail
        refine (norm_num hYB (by omega)).mono ?_
        rintro e w3 ⟨v, rfl, _, nv, b3⟩
        go_wp2_with fail
        go_ret
        refine ⟨_, rfl, ?_, below_both (below_both b1 b2) b3⟩
        have nv := nv.from_ (Nat.le_trans b1.size b2.size)
        rw [hgr.out, Nat.gcd_zero_right]
        exact nv
      · have hlen : ((((digs 18446744073709551616 R).length : Nat) : Int) == 0) = false := beq_eq_false_iff_ne.2 (by rw [digs_pos (by decide) hR0]; simp; omega)
        have HR := Lib.hid hR0
        clear hR0
        have hT2 := (hT.behind b1).behind b2
        go_wp2_with fail
        refine (zeros_num hYB (by omega) hT2).mono ?_
        rintro e w3 ⟨z1, rfl, ⟨hz1, hzl1⟩, b3⟩
        have HZ1 := Lib.hid hz1
        have HL1 := Lib.hid hzl1
        have hr3 := hr.behind b3
        have hT3 := hT2.behind b3
        clear hz1 hzl1
        go_wp2_with fail
        refine (zeros_num (hr3.num HRL.out) (by omega) hT3).mono ?_
        rintro e w4 ⟨z2, rfl, ⟨hz2, hzl2⟩, b4⟩
        have HZ2 := Lib.hid hz2
        have hr4 := hr3.behind b4
        have hT4 := hT3.behind b4
        have hY4 := (hYB.behind b3).behind b4
        clear hz2 hzl2
        have hmin : min (z1 : Int) (z2 : Int) = ((min z1 z2 : Nat) : Int) := by omega
        have hmc : min z1 z2 ≤ 281474976710656 := Nat.le_trans (Nat.min_le_left _ _) (Nat.le_trans HL1.out (by omega))
        have HMN : Hid (min z1 z2 = min z1 z2) := Lib.hid rfl
        generalize hzz : min z1 z2 = zz at hmin hmc
        have HZZ := Lib.hid hzz
        clear hzz HMN
        go_wp2_with fail
        refine (norm_own hY4 (by omega) HY.out).mono ?_
        rintro e w5 ⟨v5, S5, rfl, ow5, hS5, b5⟩
        have hT5 := hT4.behind b5
        have hr5 := hr4.behind b5
        have hSl := hr4.2.lt
        have hTl := hT.lt
        have hsz1 := b1.size
        have hsz2 := b2.size
        have hsz3 := b3.size
        have hsz4 := b4.size
        have hsz5 := b5.size
        have B5 := below_both (below_both (below_both (below_both b1 b2) b3) b4) b5
        clear b1 b2 b3 b4 b5 hYB hY4 hr hr3 hr4 hA1 hB1
        go_wp2_with fail
        refine (odd_own ow5 HYL.out (by omega) HY.out hT5 (by omega)).mono ?_
        rintro e w6 ⟨v6, y1, m1, rfl, he1, ow6, ho6⟩
        have hr6 := hr5.off ho6 (by omega)
        have hT6 := hT5.off ho6 (by omega)
        have B6 := Off.to_below B5 ho6 (by omega) B5.size
        have HE1 := Lib.hid he1
        clear he1 ow5 hr5 ho6
        go_wp2_with fail
        refine (odd_own hr6 HRL.out (by omega) HR.out hT6 (by omega)).mono ?_
        rintro e w7 ⟨v7, y2, m2, rfl, he2, ow7, ho7⟩
        have ow67 := ow6.off ho7 (by omega)
        have hT7 := hT6.off ho7 (by omega)
        have B7 := Off.to_below B6 ho7 (by omega) B6.size
        have HE2 := Lib.hid he2
        have hl1 : 2 * m1 + 1 < 18446744073709551616 ^ i := Nat.lt_of_le_of_lt (Nat.le_trans (Nat.le_mul_of_pos_left _ (Nat.pow_pos (by decide))) (Nat.le_of_eq HE1.out.symm)) HYL.out
        have hl2 : 2 * m2 + 1 < 18446744073709551616 ^ i := Nat.lt_of_le_of_lt (Nat.le_trans (Nat.le_mul_of_pos_left _ (Nat.pow_pos (by decide))) (Nat.le_of_eq HE2.out.symm)) HRL.out
        have htwo : Two w.heap.size i (Nat.gcd (2 * m1 + 1) (2 * m2 + 1)) w7 w7 v6 v7 S5 S (2 * m1 + 1) (2 * m2 + 1) :=
          ⟨ow67, ow7, by omega, by omega, by omega, by omega, by omega, hl1, hl2, rfl, hT7, hTl, Below.refl _ _, B7.size⟩
        have hgl : Hid (Nat.gcd (2 * m1 + 1) (2 * m2 + 1) < 18446744073709551616 ^ i) := Lib.hid (Nat.lt_of_le_of_lt (Nat.gcd_le_left _ (by omega)) hl1)
        have hge : Hid (Nat.gcd (2 * m1 + 1) (2 * m2 + 1) * 2 ^ zz = Nat.gcd M N) := Lib.hid (by
          obtain ⟨n1, e1⟩ := HZ1.out.is HY.out
          obtain ⟨n2, e2⟩ := HZ2.out.is HR.out
          obtain ⟨rfl, rfl⟩ := odd_part (HE1.out.symm.trans e1)
          obtain ⟨rfl, rfl⟩ := odd_part (HE2.out.symm.trans e2)
          rw [hgr.out, ← HZZ.out, ← gcd_two, ← e1, ← e2])
        clear hl1 hl2 ow6 ow67 ow7 ho7 he2 hr6
        generalize Nat.gcd (2 * m1 + 1) (2 * m2 + 1) = G at htwo hgl hge
        have HTW := Lib.hid htwo
        clear htwo
        go_wp2_with fail
        refine (oddGcd_calls HTW.out (by omega)).mono ?_
        rintro e w8 ⟨v8, S8, rfl, hS8, ow8, b8, _⟩
        have B8 := B7.trans b8
        go_wp2_with fail
        refine (raise_num (ow8.num hgl.out) (by omega) hmc).mono ?_
        rintro e w9 ⟨v9, rfl, nv, b9⟩
        rw [hge.out] at nv
        go_wp2_with fail
        go_ret
        exact ⟨_, rfl, nv.from_ B8.size, B8.trans (b9.mono B8.size)⟩
end Go.Proofs.YtfbnpdlkbabmfaaDoor
