/- vernierlaw05.RatioBack, walked. -/
import Derived.Test.YtfbnpdlkbabmfaaDoorRtLaw
namespace Go.Proofs.YtfbnpdlkbabmfaaDoor
open Go.RowKit Go.Shelf
attribute [local go_sem ↓] Go.wp_at_zero Go.wp_at_succ

/-- what is told of a fraction: letters for it -/
theorem told_facts {N : Int} {M k : Nat} (hM : M ≠ 0) (hN : N.natAbs < 18446744073709551616 ^ k) (hK : M < 18446744073709551616 ^ k) :
    ∃ z d, rz N M = z ∧ rd N M = d ∧ Hid (z.natAbs < 18446744073709551616 ^ k) ∧ Hid (d < 18446744073709551616 ^ k) ∧ Hid (Eqv z d N M) ∧ Hid (d ≠ 0) ∧ Hid (Nat.gcd z.natAbs d = 1) :=
  ⟨_, _, rfl, rfl, Lib.hid (Nat.lt_of_le_of_lt (rz_le _ _) hN), Lib.hid (Nat.lt_of_le_of_lt (rd_le _ _) hK), Lib.hid (r_eqv _ _), Lib.hid (rd_pos _ hM), Lib.hid (r_coprime _ hM)⟩
theorem mul_lt2 {x y : Int} {i : Nat} (h1 : x.natAbs < 18446744073709551616 ^ i) (h2 : y.natAbs < 18446744073709551616 ^ i) : (x * y).natAbs < 18446744073709551616 ^ (2 * i + 1) := by
  rw [Int.natAbs_mul]
  exact Nat.lt_of_lt_of_le (pow_mul_lt h1 h2) (Nat.pow_le_pow_right (by decide) (by omega))
theorem add_lt2 {x y x' y' : Int} {i : Nat} (h1 : x.natAbs < 18446744073709551616 ^ i) (h2 : y.natAbs < 18446744073709551616 ^ i) (h3 : x'.natAbs < 18446744073709551616 ^ i) (h4 : y'.natAbs < 18446744073709551616 ^ i) : (x * y + x' * y').natAbs < 18446744073709551616 ^ (2 * i + 1) := by
  have a := pow_mul_lt h1 h2
  have b := pow_mul_lt h3 h4
  rw [← Int.natAbs_mul] at a b
  rw [Nat.pow_succ, show 2 * i = i + i by omega]
  omega
theorem sub_lt2 {x y x' y' : Int} {i : Nat} (h1 : x.natAbs < 18446744073709551616 ^ i) (h2 : y.natAbs < 18446744073709551616 ^ i) (h3 : x'.natAbs < 18446744073709551616 ^ i) (h4 : y'.natAbs < 18446744073709551616 ^ i) : (x * y - x' * y').natAbs < 18446744073709551616 ^ (2 * i + 1) := by
  have a := pow_mul_lt h1 h2
  have b := pow_mul_lt h3 h4
  rw [← Int.natAbs_mul] at a b
  rw [Nat.pow_succ, show 2 * i = i + i by omega]
  omega
theorem nmul_lt2 {x y i : Nat} (h1 : x < 18446744073709551616 ^ i) (h2 : y < 18446744073709551616 ^ i) : x * y < 18446744073709551616 ^ (2 * i + 1) :=
  Nat.lt_of_lt_of_le (pow_mul_lt h1 h2) (Nat.pow_le_pow_right (by decide) (by omega))
theorem sg_abs (x : Int) (D : Nat) : (sg x D).natAbs = D := by
  unfold sg
  split <;> simp
theorem sg_mul (x : Int) (D : Nat) : sg x D * x = D * (x.natAbs : Nat) := by
  unfold sg
  split
  · rename_i h
    rw [Int.ofNat_natAbs_of_nonpos (by omega), Int.neg_mul, Int.mul_neg]
  · rename_i h
    rw [Int.natAbs_of_nonneg (by omega)]
theorem Eqv.mulr {z z' u : Int} {d d' v : Nat} (h : Eqv z d z' d') : Eqv (z * u) (d * v) (z' * u) (d' * v) := by
  unfold Eqv at *
  rw [Int.natCast_mul, Int.natCast_mul, show z * u * (d' * v) = (z * d') * (u * v) by rw [Int.mul_assoc, Int.mul_left_comm u, ← Int.mul_assoc], show z' * u * (d * v) = (z' * d) * (u * v) by rw [Int.mul_assoc, Int.mul_left_comm u, ← Int.mul_assoc], h]
/-- what is divided, multiplied again -/
theorem back_mul {x x' zq zp : Int} {D D' dq dp : Nat} (hD : D ≠ 0) (hD' : D' ≠ 0) (hx : x' ≠ 0) (hq : dq ≠ 0) (h1 : Eqv zq dq (x * sg x' D') (D * x'.natAbs)) (h2 : Eqv zp dp (zq * x') (dq * D')) : Eqv zp dp x D := by
  have h3 := h1.mulr (u := x') (v := D')
  have h4 : Eqv (x * sg x' D' * x') (D * x'.natAbs * D') x D := by
    unfold Eqv
    rw [Int.mul_assoc x, sg_mul, Int.natCast_mul, Int.natCast_mul, Int.mul_assoc, Int.mul_assoc, Int.mul_comm (D' : Int), Int.mul_comm (x'.natAbs : Int)]
  exact (h2.trans (Nat.mul_ne_zero hq hD') h3).trans (Nat.mul_ne_zero (Nat.mul_ne_zero hD (by omega)) hD') h4
/-- what is added, taken away again -/
theorem back_sub {x x' zs zd : Int} {D D' ds dd : Nat} (hD : D ≠ 0) (hD' : D' ≠ 0) (hs : ds ≠ 0) (h1 : Eqv zs ds (x * D' + x' * D) (D * D')) (h2 : Eqv zd dd (zs * D' - x' * ds) (ds * D')) : Eqv zd dd x D := by
  refine h2.trans (Nat.mul_ne_zero hs hD') ?_
  unfold Eqv at h1 ⊢
  rw [Int.natCast_mul] at h1 ⊢
  have e1 : (zs * D' - x' * ds) * D = zs * (D * D') - x' * D * ds := by
    rw [Int.sub_mul, Int.mul_assoc zs, Int.mul_comm (D' : Int), Int.mul_right_comm x']
  rw [e1, h1, Int.add_mul, Int.mul_assoc x, Int.mul_comm (D' : Int)]
  omega
theorem Eqv.cmp {z z' : Int} {d d' : Nat} (h : Eqv z d z' d') : cmpZ (z * d') (z' * d) = 0 := by
  unfold Eqv at h
  rw [h]; exact cmpZ_self _
set_option maxRecDepth 100000 in
set_option maxHeartbeats 2000000 in
theorem back_big {s s' : Bool} {a a' b b' : Option Addr} {m c m' c' n k n' k' D D' i : Nat} {x x' : Int} {w : World} (zA : Wv w s a m c x i) (hD : Num w (.slice b n k) D i) (zA' : Wv w s' a' m' c' x' i) (hD' : Num w (.slice b' n' k') D' i) (hT : TabOk w) (HS : Hid ((sm m n && sm m' n') = false)) :
    Calls Tryd.prog 5 #[.agg #[.bool s, .slice a m c, .slice b n k], .agg #[.bool s', .slice a' m' c', .slice b' n' k']] w fun e W' => e = .returned (.bool true) ∧ Below w.heap.size w W' := by
  have hb := dbox2 w #[.bool s, .slice a m c, .slice b n k] #[.bool s', .slice a' m' c', .slice b' n' k'] 26 26
  have hbs := fun W p a m k b n l => dbox1 W #[.bool p, .slice a m k, .slice b n l] 26
  have hbf := fun W => dbox1 W #[.bool s, .slice a m c, .slice b n k, .bool s', .slice a' m' c', .slice b' n' k'] 26
  go_enter Tryd.func5, Tryd.ntmps5
  go_wp2_with fail
  obtain ⟨B, GA, GB, hsz⟩ := hb _ rfl
  generalize ((w.alloc (.cells #[.bool s, .slice a m c, .slice b n k] 26)).alloc (.cells #[.bool s', .slice a' m' c', .slice b' n' k'] 26)) = W0 at B GA GB hsz ⊢
  clear hb hsz
  refine (lalive5 (hT.behind B)).mono ?_
  rintro e v1 ⟨rfl, bb⟩
  replace GA := GA.behind bb
  replace GB := GB.behind bb
  replace B := below_both B bb
  have GAc0 := GA.cell (i := 0) rfl
  have GAc1 := GA.cell (i := 1) rfl
  have GAc2 := GA.cell (i := 2) rfl
  have GBc0 := GB.cell (i := 0) rfl
  have GBc1 := GB.cell (i := 1) rfl
  have GBc2 := GB.cell (i := 2) rfl
  go_wp2_with fail
  clear GAc0 GAc1 GAc2 GBc0 GBc1 GBc2
  obtain ⟨bx, S, zx⟩ := hbf v1 _ rfl
  generalize (v1.alloc (.cells #[.bool s, .slice a m c, .slice b n k, .bool s', .slice a' m' c', .slice b' n' k'] 26)) = y1 at bx S zx ⊢
  replace GA := GA.behind bx
  replace GB := GB.behind bx
  replace B := below_both B bx
  clear bx zx hbf
  refine (few_two_is _ _ S HS.out).mono ?_
  rintro e v2 ⟨rfl, bb⟩
  replace GA := GA.behind bb
  replace GB := GB.behind bb
  replace B := below_both B bb
  clear S bb
  go_wp2
  go_ret
  exact ⟨rfl, B⟩
set_option maxRecDepth 100000 in
set_option maxHeartbeats 2000000 in
theorem back_no {s s' : Bool} {a a' b b' : Option Addr} {m c m' c' n k n' k' D D' i : Nat} {x x' : Int} {w : World} (zA : Wv w s a m c x i) (hD : Num w (.slice b n k) D i) (zA' : Wv w s' a' m' c' x' i) (hD' : Num w (.slice b' n' k') D' i) (hT : TabOk w) (HS : Hid ((sm m n && sm m' n') = true)) (H0 : Hid (D = 0 ∨ D' = 0)) :
    Calls Tryd.prog 5 #[.agg #[.bool s, .slice a m c, .slice b n k], .agg #[.bool s', .slice a' m' c', .slice b' n' k']] w fun e W' => e = .returned (.bool true) ∧ Below w.heap.size w W' := by
  have hb := dbox2 w #[.bool s, .slice a m c, .slice b n k] #[.bool s', .slice a' m' c', .slice b' n' k'] 26 26
  have hbs := fun W p a m k b n l => dbox1 W #[.bool p, .slice a m k, .slice b n l] 26
  have hbf := fun W => dbox1 W #[.bool s, .slice a m c, .slice b n k, .bool s', .slice a' m' c', .slice b' n' k'] 26
  have zA0 := zA
  obtain ⟨⟨s1, s2⟩, s3, s4⟩ : (m ≤ 6 ∧ n ≤ 6) ∧ m' ≤ 6 ∧ n' ≤ 6 := by have := HS.out; simp only [sm, Bool.and_eq_true, decide_eq_true_iff] at this; exact this
  replace zA := zA.len s1
  replace zA' := zA'.len s3
  replace hD := num_len hD s2
  replace hD' := num_len hD' s4
  clear s1 s2 s3 s4 zA0
  go_enter Tryd.func5, Tryd.ntmps5
  go_wp2_with fail
  obtain ⟨B, GA, GB, hsz⟩ := hb _ rfl
  generalize ((w.alloc (.cells #[.bool s, .slice a m c, .slice b n k] 26)).alloc (.cells #[.bool s', .slice a' m' c', .slice b' n' k'] 26)) = W0 at B GA GB hsz ⊢
  clear hb hsz
  refine (lalive5 (hT.behind B)).mono ?_
  rintro e v1 ⟨rfl, bb⟩
  replace GA := GA.behind bb
  replace GB := GB.behind bb
  replace B := below_both B bb
  have GAc0 := GA.cell (i := 0) rfl
  have GAc1 := GA.cell (i := 1) rfl
  have GAc2 := GA.cell (i := 2) rfl
  have GBc0 := GB.cell (i := 0) rfl
  have GBc1 := GB.cell (i := 1) rfl
  have GBc2 := GB.cell (i := 2) rfl
  go_wp2_with fail
  clear GAc0 GAc1 GAc2 GBc0 GBc1 GBc2
  obtain ⟨bx, S, zx⟩ := hbf v1 _ rfl
  generalize (v1.alloc (.cells #[.bool s, .slice a m c, .slice b n k, .bool s', .slice a' m' c', .slice b' n' k'] 26)) = y1 at bx S zx ⊢
  replace GA := GA.behind bx
  replace GB := GB.behind bx
  replace B := below_both B bx
  clear bx zx hbf
  refine (few_two_is _ _ S HS.out).mono ?_
  rintro e v2 ⟨rfl, bb⟩
  replace GA := GA.behind bb
  replace GB := GB.behind bb
  replace B := below_both B bb
  clear S bb
  have GAc0 := GA.cell (i := 0) rfl
  have GAc1 := GA.cell (i := 1) rfl
  have GAc2 := GA.cell (i := 2) rfl
  have GBc0 := GB.cell (i := 0) rfl
  have GBc1 := GB.cell (i := 1) rfl
  have GBc2 := GB.cell (i := 2) rfl
  go_wp2_with fail
  clear GAc0 GAc1 GAc2 GBc0 GBc1 GBc2
  refine (rdiv_no (zA.behind B) (hD.behind B) (zA'.behind B) (hD'.behind B) (by omega) H0).mono ?_
  rintro e v3 ⟨p1, a1, m1, k1, b1, n1, l1, u1, rfl, nf1, nd1, bb, hu⟩
  subst hu
  obtain ⟨bx, G1, zx⟩ := hbs v3 p1 a1 m1 k1 b1 n1 l1 _ rfl
  replace GA := (GA.behind bb).behind bx
  replace GB := (GB.behind bb).behind bx
  replace B := below_both (below_both B bb) bx
  clear bb zx
  have GAc0 := GA.cell (i := 0) rfl
  have GAc1 := GA.cell (i := 1) rfl
  have GAc2 := GA.cell (i := 2) rfl
  have GBc0 := GB.cell (i := 0) rfl
  have GBc1 := GB.cell (i := 1) rfl
  have GBc2 := GB.cell (i := 2) rfl
  have G1c0 := G1.cell (i := 0) rfl
  have G1c1 := G1.cell (i := 1) rfl
  have G1c2 := G1.cell (i := 2) rfl
  go_wp2_with fail
  clear bx GAc0 GAc1 GAc2 GBc0 GBc1 GBc2 G1c0 G1c1 G1c2
  generalize (v3.alloc (.cells #[.bool p1, .slice a1 m1 k1, .slice b1 n1 l1] 26)) = y3 at GA GB G1 B ⊢
  generalize v3.heap.size = g1 at G1 ⊢
  refine (radd_no (zA.behind B) (hD.behind B) (zA'.behind B) (hD'.behind B) (by omega) H0).mono ?_
  rintro e v4 ⟨p2, a2, m2, k2, b2, n2, l2, u2, rfl, nf2, nd2, bb, hu⟩
  subst hu
  obtain ⟨bx, G2, zx⟩ := hbs v4 p2 a2 m2 k2 b2 n2 l2 _ rfl
  replace GA := (GA.behind bb).behind bx
  replace GB := (GB.behind bb).behind bx
  replace G1 := (G1.behind bb).behind bx
  replace B := below_both (below_both B bb) bx
  clear bb zx
  have GAc0 := GA.cell (i := 0) rfl
  have GAc1 := GA.cell (i := 1) rfl
  have GAc2 := GA.cell (i := 2) rfl
  have GBc0 := GB.cell (i := 0) rfl
  have GBc1 := GB.cell (i := 1) rfl
  have GBc2 := GB.cell (i := 2) rfl
  have G1c0 := G1.cell (i := 0) rfl
  have G1c1 := G1.cell (i := 1) rfl
  have G1c2 := G1.cell (i := 2) rfl
  have G2c0 := G2.cell (i := 0) rfl
  have G2c1 := G2.cell (i := 1) rfl
  have G2c2 := G2.cell (i := 2) rfl
  go_wp2_with fail
  clear bx GAc0 GAc1 GAc2 GBc0 GBc1 GBc2 G1c0 G1c1 G1c2 G2c0 G2c1 G2c2
  generalize (v4.alloc (.cells #[.bool p2, .slice a2 m2 k2, .slice b2 n2 l2] 26)) = y4 at GA GB G1 G2 B ⊢
  generalize v4.heap.size = g2 at G2 ⊢
  go_ret
  exact ⟨rfl, B⟩
set_option maxRecDepth 100000 in
set_option maxHeartbeats 2000000 in
theorem back_zero {s s' : Bool} {a a' b b' : Option Addr} {m c m' c' n k n' k' D D' i : Nat} {x x' : Int} {w : World} (zA : Wv w s a m c x i) (hD : Num w (.slice b n k) D i) (zA' : Wv w s' a' m' c' x' i) (hD' : Num w (.slice b' n' k') D' i) (hT : TabOk w) (HS : Hid ((sm m n && sm m' n') = true)) (H0 : Hid (D ≠ 0)) (H1 : Hid (D' ≠ 0)) (HX : Hid (x' = 0)) :
    Calls Tryd.prog 5 #[.agg #[.bool s, .slice a m c, .slice b n k], .agg #[.bool s', .slice a' m' c', .slice b' n' k']] w fun e W' => e = .returned (.bool true) ∧ Below w.heap.size w W' := by
  have hb := dbox2 w #[.bool s, .slice a m c, .slice b n k] #[.bool s', .slice a' m' c', .slice b' n' k'] 26 26
  have hbs := fun W p a m k b n l => dbox1 W #[.bool p, .slice a m k, .slice b n l] 26
  have hbf := fun W => dbox1 W #[.bool s, .slice a m c, .slice b n k, .bool s', .slice a' m' c', .slice b' n' k'] 26
  have zA0 := zA
  obtain ⟨⟨s1, s2⟩, s3, s4⟩ : (m ≤ 6 ∧ n ≤ 6) ∧ m' ≤ 6 ∧ n' ≤ 6 := by have := HS.out; simp only [sm, Bool.and_eq_true, decide_eq_true_iff] at this; exact this
  replace zA := zA.len s1
  replace zA' := zA'.len s3
  replace hD := num_len hD s2
  replace hD' := num_len hD' s4
  clear s1 s2 s3 s4 zA0
  have q0 := zA.lt
  have q1 := hD.lt
  have q2 := zA'.lt
  have q3 := hD'.lt
  obtain ⟨z2, d2, e2, f2, Z2, E2, Q2, U2, V2⟩ := told_facts (N := x * D' + x' * D) (M := D * D') (k := 13) (Nat.mul_ne_zero H0.out H1.out) (add_lt2 (i := 6) q0 q3 q2 q1) (nmul_lt2 (i := 6) q1 q3)
  have C2 : Hid (∀ W : World, Below w.heap.size w W → Calls Tryd.prog 9 #[.agg #[.bool s, .slice a m c, .slice b n k], .agg #[.bool s', .slice a' m' c', .slice b' n' k']] W (RQ W z2 d2 0)) := Lib.hid fun W b => by
    have := radd_ok (zA.behind b) (hD.behind b) (zA'.behind b) (hD'.behind b) (by omega) H0 H1 (hT.behind b)
    rwa [e2, f2] at this
  obtain ⟨z4, d4, e4, f4, Z4, E4, Q4, U4, V4⟩ := told_facts (N := z2 * D' - x' * d2) (M := d2 * D') (k := 27) (Nat.mul_ne_zero U2.out H1.out) (sub_lt2 (i := 13) Z2.out (Nat.lt_of_lt_of_le q3 (Nat.pow_le_pow_right (by decide) (by decide))) (Nat.lt_of_lt_of_le q2 (Nat.pow_le_pow_right (by decide) (by decide))) E2.out) (nmul_lt2 (i := 13) E2.out (Nat.lt_of_lt_of_le q3 (Nat.pow_le_pow_right (by decide) (by decide))))
  have C4 : Hid (∀ (W : World) (p : Bool) (a1 : Option Addr) (m1 k1 : Nat) (b1 : Option Addr) (n1 l1 : Nat), Wv W p a1 m1 k1 z2 13 → Num W (.slice b1 n1 l1) d2 13 → Below w.heap.size w W → Calls Tryd.prog 10 #[.agg #[.bool p, .slice a1 m1 k1, .slice b1 n1 l1], .agg #[.bool s', .slice a' m' c', .slice b' n' k']] W (RQ W z4 d4 0)) := Lib.hid fun W p a1 m1 k1 b1 n1 l1 h1 h2 b => by
    have := rsub_ok h1 h2 ((zA'.behind b).more (by decide)) ((hD'.behind b).more (by decide)) (by decide) U2 H1 (hT.behind b)
    rwa [e4, f4] at this
  have C6 : Hid (∀ (W : World) (p : Bool) (a1 : Option Addr) (m1 k1 : Nat) (b1 : Option Addr) (n1 l1 : Nat), Wv W p a1 m1 k1 z4 27 → Num W (.slice b1 n1 l1) d4 27 → Below w.heap.size w W → Calls Tryd.prog 13 #[.agg #[.bool p, .slice a1 m1 k1, .slice b1 n1 l1], .agg #[.bool s, .slice a m c, .slice b n k]] W fun e W' => e = .returned (.tuple #[.int .i64 0, .int .i64 0]) ∧ Below W.heap.size W W') := Lib.hid fun W p a1 m1 k1 b1 n1 l1 h1 h2 b => by
    have h : Eqv z4 d4 x D := back_sub H0.out H1.out U2.out Q2.out Q4.out
    have := rcmp_ok h1 h2 ((zA.behind b).more (by decide)) ((hD.behind b).more (by decide)) (by decide) U4 H0 (hT.behind b)
    rwa [h.cmp] at this
  have C1 : Hid (∀ W : World, Below w.heap.size w W → Calls Tryd.prog 12 #[.agg #[.bool s, .slice a m c, .slice b n k], .agg #[.bool s', .slice a' m' c', .slice b' n' k']] W (RQ W 0 0 7)) := Lib.hid fun W b => rdiv_zero (zA.behind b) (hD.behind b) (zA'.behind b) (hD'.behind b) (by omega) H0 H1 (hT.behind b) HX
  clear q0 q1 q2 q3 e2 f2 Q2 U2 V2 e4 f4 Q4 U4 V4
  go_enter Tryd.func5, Tryd.ntmps5
  go_wp2_with fail
  obtain ⟨B, GA, GB, hsz⟩ := hb _ rfl
  generalize ((w.alloc (.cells #[.bool s, .slice a m c, .slice b n k] 26)).alloc (.cells #[.bool s', .slice a' m' c', .slice b' n' k'] 26)) = W0 at B GA GB hsz ⊢
  clear hb hsz
  refine (lalive5 (hT.behind B)).mono ?_
  rintro e v1 ⟨rfl, bb⟩
  replace GA := GA.behind bb
  replace GB := GB.behind bb
  replace B := below_both B bb
  have GAc0 := GA.cell (i := 0) rfl
  have GAc1 := GA.cell (i := 1) rfl
  have GAc2 := GA.cell (i := 2) rfl
  have GBc0 := GB.cell (i := 0) rfl
  have GBc1 := GB.cell (i := 1) rfl
  have GBc2 := GB.cell (i := 2) rfl
  go_wp2_with fail
  clear GAc0 GAc1 GAc2 GBc0 GBc1 GBc2
  obtain ⟨bx, S, zx⟩ := hbf v1 _ rfl
  generalize (v1.alloc (.cells #[.bool s, .slice a m c, .slice b n k, .bool s', .slice a' m' c', .slice b' n' k'] 26)) = y1 at bx S zx ⊢
  replace GA := GA.behind bx
  replace GB := GB.behind bx
  replace B := below_both B bx
  clear bx zx hbf
  refine (few_two_is _ _ S HS.out).mono ?_
  rintro e v2 ⟨rfl, bb⟩
  replace GA := GA.behind bb
  replace GB := GB.behind bb
  replace B := below_both B bb
  clear S bb
  have GAc0 := GA.cell (i := 0) rfl
  have GAc1 := GA.cell (i := 1) rfl
  have GAc2 := GA.cell (i := 2) rfl
  have GBc0 := GB.cell (i := 0) rfl
  have GBc1 := GB.cell (i := 1) rfl
  have GBc2 := GB.cell (i := 2) rfl
  go_wp2_with fail
  clear GAc0 GAc1 GAc2 GBc0 GBc1 GBc2
  refine (C1.out _ B).mono ?_
  rintro e v3 ⟨p1, a1, m1, k1, b1, n1, l1, u1, rfl, nf1, nd1, bb, hu⟩
  subst hu
  obtain ⟨bx, G1, zx⟩ := hbs v3 p1 a1 m1 k1 b1 n1 l1 _ rfl
  replace GA := (GA.behind bb).behind bx
  replace GB := (GB.behind bb).behind bx
  replace B := below_both (below_both B bb) bx
  clear bb zx
  have GAc0 := GA.cell (i := 0) rfl
  have GAc1 := GA.cell (i := 1) rfl
  have GAc2 := GA.cell (i := 2) rfl
  have GBc0 := GB.cell (i := 0) rfl
  have GBc1 := GB.cell (i := 1) rfl
  have GBc2 := GB.cell (i := 2) rfl
  have G1c0 := G1.cell (i := 0) rfl
  have G1c1 := G1.cell (i := 1) rfl
  have G1c2 := G1.cell (i := 2) rfl
  go_wp2_with fail
  clear bx GAc0 GAc1 GAc2 GBc0 GBc1 GBc2 G1c0 G1c1 G1c2
  generalize (v3.alloc (.cells #[.bool p1, .slice a1 m1 k1, .slice b1 n1 l1] 26)) = y3 at GA GB G1 B ⊢
  generalize v3.heap.size = g1 at G1 ⊢
  refine (C2.out _ B).mono ?_
  rintro e v4 ⟨p2, a2, m2, k2, b2, n2, l2, u2, rfl, nf2, nd2, bb, hu⟩
  subst hu
  obtain ⟨bx, G2, zx⟩ := hbs v4 p2 a2 m2 k2 b2 n2 l2 _ rfl
  replace GA := (GA.behind bb).behind bx
  replace GB := (GB.behind bb).behind bx
  replace G1 := (G1.behind bb).behind bx
  replace nf2 := nf2.behind bx
  replace nd2 := nd2.behind bx
  replace B := below_both (below_both B bb) bx
  clear bb zx
  have GAc0 := GA.cell (i := 0) rfl
  have GAc1 := GA.cell (i := 1) rfl
  have GAc2 := GA.cell (i := 2) rfl
  have GBc0 := GB.cell (i := 0) rfl
  have GBc1 := GB.cell (i := 1) rfl
  have GBc2 := GB.cell (i := 2) rfl
  have G1c0 := G1.cell (i := 0) rfl
  have G1c1 := G1.cell (i := 1) rfl
  have G1c2 := G1.cell (i := 2) rfl
  have G2c0 := G2.cell (i := 0) rfl
  have G2c1 := G2.cell (i := 1) rfl
  have G2c2 := G2.cell (i := 2) rfl
  go_wp2_with fail
  clear bx GAc0 GAc1 GAc2 GBc0 GBc1 GBc2 G1c0 G1c1 G1c2 G2c0 G2c1 G2c2
  generalize (v4.alloc (.cells #[.bool p2, .slice a2 m2 k2, .slice b2 n2 l2] 26)) = y4 at GA GB G1 G2 nf2 nd2 B ⊢
  generalize v4.heap.size = g2 at G2 ⊢
  refine (C4.out _ _ _ _ _ _ _ _ (nf2.wv Z2.out) (nd2.num E2.out) B).mono ?_
  rintro e v5 ⟨p4, a4, m4, k4, b4, n4, l4, u4, rfl, nf4, nd4, bb, hu⟩
  subst hu
  obtain ⟨bx, G4, zx⟩ := hbs v5 p4 a4 m4 k4 b4 n4 l4 _ rfl
  replace GA := (GA.behind bb).behind bx
  replace GB := (GB.behind bb).behind bx
  replace G1 := (G1.behind bb).behind bx
  replace G2 := (G2.behind bb).behind bx
  replace nf2 := (nf2.behind bb).behind bx
  replace nd2 := (nd2.behind bb).behind bx
  replace nf4 := nf4.behind bx
  replace nd4 := nd4.behind bx
  replace B := below_both (below_both B bb) bx
  clear bb zx
  have GAc0 := GA.cell (i := 0) rfl
  have GAc1 := GA.cell (i := 1) rfl
  have GAc2 := GA.cell (i := 2) rfl
  have GBc0 := GB.cell (i := 0) rfl
  have GBc1 := GB.cell (i := 1) rfl
  have GBc2 := GB.cell (i := 2) rfl
  have G1c0 := G1.cell (i := 0) rfl
  have G1c1 := G1.cell (i := 1) rfl
  have G1c2 := G1.cell (i := 2) rfl
  have G2c0 := G2.cell (i := 0) rfl
  have G2c1 := G2.cell (i := 1) rfl
  have G2c2 := G2.cell (i := 2) rfl
  have G4c0 := G4.cell (i := 0) rfl
  have G4c1 := G4.cell (i := 1) rfl
  have G4c2 := G4.cell (i := 2) rfl
  go_wp2_with fail
  clear bx GAc0 GAc1 GAc2 GBc0 GBc1 GBc2 G1c0 G1c1 G1c2 G2c0 G2c1 G2c2 G4c0 G4c1 G4c2
  generalize (v5.alloc (.cells #[.bool p4, .slice a4 m4 k4, .slice b4 n4 l4] 26)) = y5 at GA GB G1 G2 G4 nf2 nd2 nf4 nd4 B ⊢
  generalize v5.heap.size = g4 at G4 ⊢
  refine (C6.out _ _ _ _ _ _ _ _ (nf4.wv Z4.out) (nd4.num E4.out) B).mono ?_
  rintro e v6 ⟨rfl, bb⟩
  replace GA := GA.behind bb
  replace GB := GB.behind bb
  replace G1 := G1.behind bb
  replace G2 := G2.behind bb
  replace G4 := G4.behind bb
  replace nf2 := nf2.behind bb
  replace nd2 := nd2.behind bb
  replace nf4 := nf4.behind bb
  replace nd4 := nd4.behind bb
  replace B := below_both B bb
  go_wp2
  go_ret
  exact ⟨rfl, B⟩
set_option maxRecDepth 100000 in
set_option maxHeartbeats 2000000 in
theorem back_ok {s s' : Bool} {a a' b b' : Option Addr} {m c m' c' n k n' k' D D' i : Nat} {x x' : Int} {w : World} (zA : Wv w s a m c x i) (hD : Num w (.slice b n k) D i) (zA' : Wv w s' a' m' c' x' i) (hD' : Num w (.slice b' n' k') D' i) (hT : TabOk w) (HS : Hid ((sm m n && sm m' n') = true)) (H0 : Hid (D ≠ 0)) (H1 : Hid (D' ≠ 0)) (HX : Hid (x' ≠ 0)) :
    Calls Tryd.prog 5 #[.agg #[.bool s, .slice a m c, .slice b n k], .agg #[.bool s', .slice a' m' c', .slice b' n' k']] w fun e W' => e = .returned (.bool true) ∧ Below w.heap.size w W' := by
  have hb := dbox2 w #[.bool s, .slice a m c, .slice b n k] #[.bool s', .slice a' m' c', .slice b' n' k'] 26 26
  have hbs := fun W p a m k b n l => dbox1 W #[.bool p, .slice a m k, .slice b n l] 26
  have hbf := fun W => dbox1 W #[.bool s, .slice a m c, .slice b n k, .bool s', .slice a' m' c', .slice b' n' k'] 26
  have zA0 := zA
  obtain ⟨⟨s1, s2⟩, s3, s4⟩ : (m ≤ 6 ∧ n ≤ 6) ∧ m' ≤ 6 ∧ n' ≤ 6 := by have := HS.out; simp only [sm, Bool.and_eq_true, decide_eq_true_iff] at this; exact this
  replace zA := zA.len s1
  replace zA' := zA'.len s3
  replace hD := num_len hD s2
  replace hD' := num_len hD' s4
  clear s1 s2 s3 s4 zA0
  have q0 := zA.lt
  have q1 := hD.lt
  have q2 := zA'.lt
  have q3 := hD'.lt
  obtain ⟨z1, d1, e1, f1, Z1, E1, Q1, U1, V1⟩ := told_facts (N := x * sg x' D') (M := D * x'.natAbs) (k := 13) (Nat.mul_ne_zero H0.out (by have := HX.out; omega)) (mul_lt2 (i := 6) q0 (by rw [sg_abs]; exact q3)) (nmul_lt2 (i := 6) q1 q2)
  have C1 : Hid (∀ W : World, Below w.heap.size w W → Calls Tryd.prog 12 #[.agg #[.bool s, .slice a m c, .slice b n k], .agg #[.bool s', .slice a' m' c', .slice b' n' k']] W (RQ W z1 d1 0)) := Lib.hid fun W b => by
    have := rdiv_ok (zA.behind b) (hD.behind b) (zA'.behind b) (hD'.behind b) (by omega) H0 H1 (hT.behind b) HX
    rwa [e1, f1] at this
  obtain ⟨z2, d2, e2, f2, Z2, E2, Q2, U2, V2⟩ := told_facts (N := x * D' + x' * D) (M := D * D') (k := 13) (Nat.mul_ne_zero H0.out H1.out) (add_lt2 (i := 6) q0 q3 q2 q1) (nmul_lt2 (i := 6) q1 q3)
  have C2 : Hid (∀ W : World, Below w.heap.size w W → Calls Tryd.prog 9 #[.agg #[.bool s, .slice a m c, .slice b n k], .agg #[.bool s', .slice a' m' c', .slice b' n' k']] W (RQ W z2 d2 0)) := Lib.hid fun W b => by
    have := radd_ok (zA.behind b) (hD.behind b) (zA'.behind b) (hD'.behind b) (by omega) H0 H1 (hT.behind b)
    rwa [e2, f2] at this
  obtain ⟨z3, d3, e3, f3, Z3, E3, Q3, U3, V3⟩ := told_facts (N := z1 * x') (M := d1 * D') (k := 27) (Nat.mul_ne_zero U1.out H1.out) (mul_lt2 (i := 13) Z1.out (Nat.lt_of_lt_of_le q2 (Nat.pow_le_pow_right (by decide) (by decide)))) (nmul_lt2 (i := 13) E1.out (Nat.lt_of_lt_of_le q3 (Nat.pow_le_pow_right (by decide) (by decide))))
  have C3 : Hid (∀ (W : World) (p : Bool) (a1 : Option Addr) (m1 k1 : Nat) (b1 : Option Addr) (n1 l1 : Nat), Wv W p a1 m1 k1 z1 13 → Num W (.slice b1 n1 l1) d1 13 → Below w.heap.size w W → Calls Tryd.prog 11 #[.agg #[.bool p, .slice a1 m1 k1, .slice b1 n1 l1], .agg #[.bool s', .slice a' m' c', .slice b' n' k']] W (RQ W z3 d3 0)) := Lib.hid fun W p a1 m1 k1 b1 n1 l1 h1 h2 b => by
    have := rmul_ok h1 h2 ((zA'.behind b).more (by decide)) ((hD'.behind b).more (by decide)) (by decide) U1 H1 (hT.behind b)
    rwa [e3, f3] at this
  have C5 : Hid (∀ (W : World) (p : Bool) (a1 : Option Addr) (m1 k1 : Nat) (b1 : Option Addr) (n1 l1 : Nat), Wv W p a1 m1 k1 z3 27 → Num W (.slice b1 n1 l1) d3 27 → Below w.heap.size w W → Calls Tryd.prog 13 #[.agg #[.bool p, .slice a1 m1 k1, .slice b1 n1 l1], .agg #[.bool s, .slice a m c, .slice b n k]] W fun e W' => e = .returned (.tuple #[.int .i64 0, .int .i64 0]) ∧ Below W.heap.size W W') := Lib.hid fun W p a1 m1 k1 b1 n1 l1 h1 h2 b => by
    have h : Eqv z3 d3 x D := back_mul H0.out H1.out HX.out U1.out Q1.out Q3.out
    have := rcmp_ok h1 h2 ((zA.behind b).more (by decide)) ((hD.behind b).more (by decide)) (by decide) U3 H0 (hT.behind b)
    rwa [h.cmp] at this
  obtain ⟨z4, d4, e4, f4, Z4, E4, Q4, U4, V4⟩ := told_facts (N := z2 * D' - x' * d2) (M := d2 * D') (k := 27) (Nat.mul_ne_zero U2.out H1.out) (sub_lt2 (i := 13) Z2.out (Nat.lt_of_lt_of_le q3 (Nat.pow_le_pow_right (by decide) (by decide))) (Nat.lt_of_lt_of_le q2 (Nat.pow_le_pow_right (by decide) (by decide))) E2.out) (nmul_lt2 (i := 13) E2.out (Nat.lt_of_lt_of_le q3 (Nat.pow_le_pow_right (by decide) (by decide))))
  have C4 : Hid (∀ (W : World) (p : Bool) (a1 : Option Addr) (m1 k1 : Nat) (b1 : Option Addr) (n1 l1 : Nat), Wv W p a1 m1 k1 z2 13 → Num W (.slice b1 n1 l1) d2 13 → Below w.heap.size w W → Calls Tryd.prog 10 #[.agg #[.bool p, .slice a1 m1 k1, .slice b1 n1 l1], .agg #[.bool s', .slice a' m' c', .slice b' n' k']] W (RQ W z4 d4 0)) := Lib.hid fun W p a1 m1 k1 b1 n1 l1 h1 h2 b => by
    have := rsub_ok h1 h2 ((zA'.behind b).more (by decide)) ((hD'.behind b).more (by decide)) (by decide) U2 H1 (hT.behind b)
    rwa [e4, f4] at this
  have C6 : Hid (∀ (W : World) (p : Bool) (a1 : Option Addr) (m1 k1 : Nat) (b1 : Option Addr) (n1 l1 : Nat), Wv W p a1 m1 k1 z4 27 → Num W (.slice b1 n1 l1) d4 27 → Below w.heap.size w W → Calls Tryd.prog 13 #[.agg #[.bool p, .slice a1 m1 k1, .slice b1 n1 l1], .agg #[.bool s, .slice a m c, .slice b n k]] W fun e W' => e = .returned (.tuple #[.int .i64 0, .int .i64 0]) ∧ Below W.heap.size W W') := Lib.hid fun W p a1 m1 k1 b1 n1 l1 h1 h2 b => by
    have h : Eqv z4 d4 x D := back_sub H0.out H1.out U2.out Q2.out Q4.out
    have := rcmp_ok h1 h2 ((zA.behind b).more (by decide)) ((hD.behind b).more (by decide)) (by decide) U4 H0 (hT.behind b)
    rwa [h.cmp] at this
  clear q0 q1 q2 q3 e1 f1 Q1 U1 V1 e2 f2 Q2 U2 V2 e3 f3 Q3 U3 V3 e4 f4 Q4 U4 V4
  go_enter Tryd.func5, Tryd.ntmps5
  go_wp2_with fail
  obtain ⟨B, GA, GB, hsz⟩ := hb _ rfl
  generalize ((w.alloc (.cells #[.bool s, .slice a m c, .slice b n k] 26)).alloc (.cells #[.bool s', .slice a' m' c', .slice b' n' k'] 26)) = W0 at B GA GB hsz ⊢
  clear hb hsz
  refine (lalive5 (hT.behind B)).mono ?_
  rintro e v1 ⟨rfl, bb⟩
  replace GA := GA.behind bb
  replace GB := GB.behind bb
  replace B := below_both B bb
  have GAc0 := GA.cell (i := 0) rfl
  have GAc1 := GA.cell (i := 1) rfl
  have GAc2 := GA.cell (i := 2) rfl
  have GBc0 := GB.cell (i := 0) rfl
  have GBc1 := GB.cell (i := 1) rfl
  have GBc2 := GB.cell (i := 2) rfl
  go_wp2_with fail
  clear GAc0 GAc1 GAc2 GBc0 GBc1 GBc2
  obtain ⟨bx, S, zx⟩ := hbf v1 _ rfl
  generalize (v1.alloc (.cells #[.bool s, .slice a m c, .slice b n k, .bool s', .slice a' m' c', .slice b' n' k'] 26)) = y1 at bx S zx ⊢
  replace GA := GA.behind bx
  replace GB := GB.behind bx
  replace B := below_both B bx
  clear bx zx hbf
  refine (few_two_is _ _ S HS.out).mono ?_
  rintro e v2 ⟨rfl, bb⟩
  replace GA := GA.behind bb
  replace GB := GB.behind bb
  replace B := below_both B bb
  clear S bb
  have GAc0 := GA.cell (i := 0) rfl
  have GAc1 := GA.cell (i := 1) rfl
  have GAc2 := GA.cell (i := 2) rfl
  have GBc0 := GB.cell (i := 0) rfl
  have GBc1 := GB.cell (i := 1) rfl
  have GBc2 := GB.cell (i := 2) rfl
  go_wp2_with fail
  clear GAc0 GAc1 GAc2 GBc0 GBc1 GBc2
  refine (C1.out _ B).mono ?_
  rintro e v3 ⟨p1, a1, m1, k1, b1, n1, l1, u1, rfl, nf1, nd1, bb, hu⟩
  subst hu
  obtain ⟨bx, G1, zx⟩ := hbs v3 p1 a1 m1 k1 b1 n1 l1 _ rfl
  replace GA := (GA.behind bb).behind bx
  replace GB := (GB.behind bb).behind bx
  replace nf1 := nf1.behind bx
  replace nd1 := nd1.behind bx
  replace B := below_both (below_both B bb) bx
  clear bb zx
  have GAc0 := GA.cell (i := 0) rfl
  have GAc1 := GA.cell (i := 1) rfl
  have GAc2 := GA.cell (i := 2) rfl
  have GBc0 := GB.cell (i := 0) rfl
  have GBc1 := GB.cell (i := 1) rfl
  have GBc2 := GB.cell (i := 2) rfl
  have G1c0 := G1.cell (i := 0) rfl
  have G1c1 := G1.cell (i := 1) rfl
  have G1c2 := G1.cell (i := 2) rfl
  go_wp2_with fail
  clear bx GAc0 GAc1 GAc2 GBc0 GBc1 GBc2 G1c0 G1c1 G1c2
  generalize (v3.alloc (.cells #[.bool p1, .slice a1 m1 k1, .slice b1 n1 l1] 26)) = y3 at GA GB G1 nf1 nd1 B ⊢
  generalize v3.heap.size = g1 at G1 ⊢
  refine (C2.out _ B).mono ?_
  rintro e v4 ⟨p2, a2, m2, k2, b2, n2, l2, u2, rfl, nf2, nd2, bb, hu⟩
  subst hu
  obtain ⟨bx, G2, zx⟩ := hbs v4 p2 a2 m2 k2 b2 n2 l2 _ rfl
  replace GA := (GA.behind bb).behind bx
  replace GB := (GB.behind bb).behind bx
  replace G1 := (G1.behind bb).behind bx
  replace nf1 := (nf1.behind bb).behind bx
  replace nd1 := (nd1.behind bb).behind bx
  replace nf2 := nf2.behind bx
  replace nd2 := nd2.behind bx
  replace B := below_both (below_both B bb) bx
  clear bb zx
  have GAc0 := GA.cell (i := 0) rfl
  have GAc1 := GA.cell (i := 1) rfl
  have GAc2 := GA.cell (i := 2) rfl
  have GBc0 := GB.cell (i := 0) rfl
  have GBc1 := GB.cell (i := 1) rfl
  have GBc2 := GB.cell (i := 2) rfl
  have G1c0 := G1.cell (i := 0) rfl
  have G1c1 := G1.cell (i := 1) rfl
  have G1c2 := G1.cell (i := 2) rfl
  have G2c0 := G2.cell (i := 0) rfl
  have G2c1 := G2.cell (i := 1) rfl
  have G2c2 := G2.cell (i := 2) rfl
  go_wp2_with fail
  clear bx GAc0 GAc1 GAc2 GBc0 GBc1 GBc2 G1c0 G1c1 G1c2 G2c0 G2c1 G2c2
  generalize (v4.alloc (.cells #[.bool p2, .slice a2 m2 k2, .slice b2 n2 l2] 26)) = y4 at GA GB G1 G2 nf1 nd1 nf2 nd2 B ⊢
  generalize v4.heap.size = g2 at G2 ⊢
  refine (C3.out _ _ _ _ _ _ _ _ (nf1.wv Z1.out) (nd1.num E1.out) B).mono ?_
  rintro e v5 ⟨p3, a3, m3, k3, b3, n3, l3, u3, rfl, nf3, nd3, bb, hu⟩
  subst hu
  obtain ⟨bx, G3, zx⟩ := hbs v5 p3 a3 m3 k3 b3 n3 l3 _ rfl
  replace GA := (GA.behind bb).behind bx
  replace GB := (GB.behind bb).behind bx
  replace G1 := (G1.behind bb).behind bx
  replace G2 := (G2.behind bb).behind bx
  replace nf1 := (nf1.behind bb).behind bx
  replace nd1 := (nd1.behind bb).behind bx
  replace nf2 := (nf2.behind bb).behind bx
  replace nd2 := (nd2.behind bb).behind bx
  replace nf3 := nf3.behind bx
  replace nd3 := nd3.behind bx
  replace B := below_both (below_both B bb) bx
  clear bb zx
  have GAc0 := GA.cell (i := 0) rfl
  have GAc1 := GA.cell (i := 1) rfl
  have GAc2 := GA.cell (i := 2) rfl
  have GBc0 := GB.cell (i := 0) rfl
  have GBc1 := GB.cell (i := 1) rfl
  have GBc2 := GB.cell (i := 2) rfl
  have G1c0 := G1.cell (i := 0) rfl
  have G1c1 := G1.cell (i := 1) rfl
  have G1c2 := G1.cell (i := 2) rfl
  have G2c0 := G2.cell (i := 0) rfl
  have G2c1 := G2.cell (i := 1) rfl
  have G2c2 := G2.cell (i := 2) rfl
  have G3c0 := G3.cell (i := 0) rfl
  have G3c1 := G3.cell (i := 1) rfl
  have G3c2 := G3.cell (i := 2) rfl
  go_wp2_with fail
  clear bx GAc0 GAc1 GAc2 GBc0 GBc1 GBc2 G1c0 G1c1 G1c2 G2c0 G2c1 G2c2 G3c0 G3c1 G3c2
  generalize (v5.alloc (.cells #[.bool p3, .slice a3 m3 k3, .slice b3 n3 l3] 26)) = y5 at GA GB G1 G2 G3 nf1 nd1 nf2 nd2 nf3 nd3 B ⊢
  generalize v5.heap.size = g3 at G3 ⊢
  clear nf1 nd1
  refine (C5.out _ _ _ _ _ _ _ _ (nf3.wv Z3.out) (nd3.num E3.out) B).mono ?_
  rintro e v6 ⟨rfl, bb⟩
  replace GA := GA.behind bb
  replace GB := GB.behind bb
  replace G1 := G1.behind bb
  replace G2 := G2.behind bb
  replace G3 := G3.behind bb
  replace nf2 := nf2.behind bb
  replace nd2 := nd2.behind bb
  replace nf3 := nf3.behind bb
  replace nd3 := nd3.behind bb
  replace B := below_both B bb
  clear bb
  clear nf3 nd3
  have GAc0 := GA.cell (i := 0) rfl
  have GAc1 := GA.cell (i := 1) rfl
  have GAc2 := GA.cell (i := 2) rfl
  have GBc0 := GB.cell (i := 0) rfl
  have GBc1 := GB.cell (i := 1) rfl
  have GBc2 := GB.cell (i := 2) rfl
  have G1c0 := G1.cell (i := 0) rfl
  have G1c1 := G1.cell (i := 1) rfl
  have G1c2 := G1.cell (i := 2) rfl
  have G2c0 := G2.cell (i := 0) rfl
  have G2c1 := G2.cell (i := 1) rfl
  have G2c2 := G2.cell (i := 2) rfl
  have G3c0 := G3.cell (i := 0) rfl
  have G3c1 := G3.cell (i := 1) rfl
  have G3c2 := G3.cell (i := 2) rfl
  go_wp2_with fail
  clear GAc0 GAc1 GAc2 GBc0 GBc1 GBc2 G1c0 G1c1 G1c2 G2c0 G2c1 G2c2 G3c0 G3c1 G3c2
  refine (C4.out _ _ _ _ _ _ _ _ (nf2.wv Z2.out) (nd2.num E2.out) B).mono ?_
  rintro e v7 ⟨p4, a4, m4, k4, b4, n4, l4, u4, rfl, nf4, nd4, bb, hu⟩
  subst hu
  obtain ⟨bx, G4, zx⟩ := hbs v7 p4 a4 m4 k4 b4 n4 l4 _ rfl
  replace GA := (GA.behind bb).behind bx
  replace GB := (GB.behind bb).behind bx
  replace G1 := (G1.behind bb).behind bx
  replace G2 := (G2.behind bb).behind bx
  replace G3 := (G3.behind bb).behind bx
  replace nf2 := (nf2.behind bb).behind bx
  replace nd2 := (nd2.behind bb).behind bx
  replace nf4 := nf4.behind bx
  replace nd4 := nd4.behind bx
  replace B := below_both (below_both B bb) bx
  clear bb zx
  have GAc0 := GA.cell (i := 0) rfl
  have GAc1 := GA.cell (i := 1) rfl
  have GAc2 := GA.cell (i := 2) rfl
  have GBc0 := GB.cell (i := 0) rfl
  have GBc1 := GB.cell (i := 1) rfl
  have GBc2 := GB.cell (i := 2) rfl
  have G1c0 := G1.cell (i := 0) rfl
  have G1c1 := G1.cell (i := 1) rfl
  have G1c2 := G1.cell (i := 2) rfl
  have G2c0 := G2.cell (i := 0) rfl
  have G2c1 := G2.cell (i := 1) rfl
  have G2c2 := G2.cell (i := 2) rfl
  have G3c0 := G3.cell (i := 0) rfl
  have G3c1 := G3.cell (i := 1) rfl
  have G3c2 := G3.cell (i := 2) rfl
  have G4c0 := G4.cell (i := 0) rfl
  have G4c1 := G4.cell (i := 1) rfl
  have G4c2 := G4.cell (i := 2) rfl
  go_wp2_with fail
  clear bx GAc0 GAc1 GAc2 GBc0 GBc1 GBc2 G1c0 G1c1 G1c2 G2c0 G2c1 G2c2 G3c0 G3c1 G3c2 G4c0 G4c1 G4c2
  generalize (v7.alloc (.cells #[.bool p4, .slice a4 m4 k4, .slice b4 n4 l4] 26)) = y7 at GA GB G1 G2 G3 G4 nf2 nd2 nf4 nd4 B ⊢
  generalize v7.heap.size = g4 at G4 ⊢
  refine (C6.out _ _ _ _ _ _ _ _ (nf4.wv Z4.out) (nd4.num E4.out) B).mono ?_
  rintro e v8 ⟨rfl, bb⟩
  replace GA := GA.behind bb
  replace GB := GB.behind bb
  replace G1 := G1.behind bb
  replace G2 := G2.behind bb
  replace G3 := G3.behind bb
  replace G4 := G4.behind bb
  replace nf2 := nf2.behind bb
  replace nd2 := nd2.behind bb
  replace nf4 := nf4.behind bb
  replace nd4 := nd4.behind bb
  replace B := below_both B bb
  go_wp2
  go_ret
  exact ⟨rfl, B⟩
theorem back_walk {s s' : Bool} {a a' b b' : Option Addr} {m c m' c' n k n' k' D D' i : Nat} {x x' : Int} {w : World} (zA : Wv w s a m c x i) (hD : Num w (.slice b n k) D i) (zA' : Wv w s' a' m' c' x' i) (hD' : Num w (.slice b' n' k') D' i) (hT : TabOk w) :
    Calls Tryd.prog 5 #[.agg #[.bool s, .slice a m c, .slice b n k], .agg #[.bool s', .slice a' m' c', .slice b' n' k']] w fun e W' => e = .returned (.bool true) ∧ Below w.heap.size w W' := by
  cases hs : (sm m n && sm m' n')
  · exact back_big zA hD zA' hD' hT (Lib.hid hs)
  · by_cases h0 : D = 0 ∨ D' = 0
    · exact back_no zA hD zA' hD' hT (Lib.hid hs) (Lib.hid h0)
    · by_cases hx : x' = 0
      · exact back_zero zA hD zA' hD' hT (Lib.hid hs) (Lib.hid fun h => h0 (.inl h)) (Lib.hid fun h => h0 (.inr h)) (Lib.hid hx)
      · exact back_ok zA hD zA' hD' hT (Lib.hid hs) (Lib.hid fun h => h0 (.inl h)) (Lib.hid fun h => h0 (.inr h)) (Lib.hid hx)
end Go.Proofs.YtfbnpdlkbabmfaaDoor

/- vernierlaw05.RatioOf, walked. -/
namespace Go.Proofs.YtfbnpdlkbabmfaaDoor
open Go.RowKit Go.Shelf
attribute [local go_sem ↓] Go.wp_at_zero Go.wp_at_succ

theorem num_keep {W : World} {g o m c N i : Nat} (h : Num W (.slice (some ⟨g, o, none⟩) m c) N i) {p : Addr} (hp : p.block ≠ g) (u : Value) : Num (W.setCell p u) (.slice (some ⟨g, o, none⟩) m c) N i := by
  obtain ⟨xs, ⟨b, h1, h2⟩, h3⟩ := h
  refine ⟨xs, ⟨b, by simpa [World.setCell] using h1, ?_⟩, h3⟩
  rcases h2 with h2 | ⟨off, cap, e, hl, hc⟩
  · exact .inl h2
  · cases e
    exact .inr ⟨_, _, rfl, hl, fun q hq => (World.cell?_of_block (w := W) (a := ⟨g, o + q, none⟩) (Below.heap_setCell W p u g (Ne.symm hp))).trans (hc q hq)⟩
set_option maxRecDepth 100000 in
set_option maxHeartbeats 2000000 in
theorem ofl_big {s s' : Bool} {a a' b' : Option Addr} {m c m' c' n' k' D' i : Nat} {E x x' : Int} {w : World} (zA : Wv w s a m c x i) (zB : Wv w s' a' m' c' x' i) (hD : Num w (.slice b' n' k') D' i) (hT : TabOk w) (hm : 6 < m) :
    Calls Tryd.prog 4 #[.agg #[.bool s, .slice a m c, .int .i64 E], .agg #[.bool s', .slice a' m' c', .slice b' n' k']] w fun e W' => e = .returned (.bool true) ∧ Below w.heap.size w W' := by
  have hb := dbox2 w #[.bool s, .slice a m c, .int .i64 E] #[.bool s', .slice a' m' c', .slice b' n' k'] 44 26
  have hbs := fun W p a m k b n l => dbox1 W #[.bool p, .slice a m k, .slice b n l] 26
  have h1 : decide ((6 : Int) < (m : Int)) = true := decide_eq_true (by omega)
  have h2 : decide (6 < m) = true := decide_eq_true hm
  clear hm
  go_enter Tryd.func4, Tryd.ntmps4
  go_wp2_with fail
  obtain ⟨B, GA, GB, hsz⟩ := hb _ rfl
  generalize ((w.alloc (.cells #[.bool s, .slice a m c, .int .i64 E] 44)).alloc (.cells #[.bool s', .slice a' m' c', .slice b' n' k'] 26)) = W0 at B GA GB hsz ⊢
  clear hb
  refine (lalive5 (hT.behind B)).mono ?_
  rintro e v1 ⟨rfl, bb⟩
  replace GA := GA.behind bb
  replace GB := GB.behind bb
  replace B := below_both B bb
  have GAc0 := GA.cell (i := 0) rfl
  have GAc1 := GA.cell (i := 1) rfl
  have GAc2 := GA.cell (i := 2) rfl
  have GBc0 := GB.cell (i := 0) rfl
  have GBc1 := GB.cell (i := 1) rfl
  have GBc2 := GB.cell (i := 2) rfl
  go_wp2
  go_ret
  exact ⟨rfl, B⟩
set_option maxRecDepth 100000 in
set_option maxHeartbeats 2000000 in
theorem ofl_far {s s' : Bool} {a a' b' : Option Addr} {m c m' c' n' k' D' i : Nat} {E x x' : Int} {w : World} (zA : Wv w s a m c x i) (zB : Wv w s' a' m' c' x' i) (hD : Num w (.slice b' n' k') D' i) (hT : TabOk w) (hm : m ≤ 6) (HS : Hid (sm m' n' = false)) :
    Calls Tryd.prog 4 #[.agg #[.bool s, .slice a m c, .int .i64 E], .agg #[.bool s', .slice a' m' c', .slice b' n' k']] w fun e W' => e = .returned (.bool true) ∧ Below w.heap.size w W' := by
  have hb := dbox2 w #[.bool s, .slice a m c, .int .i64 E] #[.bool s', .slice a' m' c', .slice b' n' k'] 44 26
  have hbs := fun W p a m k b n l => dbox1 W #[.bool p, .slice a m k, .slice b n l] 26
  have h1 : decide ((6 : Int) < (m : Int)) = false := decide_eq_false (by omega)
  have h2 : decide (6 < m) = false := decide_eq_false (by omega)
  replace zA := zA.len hm
  go_enter Tryd.func4, Tryd.ntmps4
  go_wp2_with fail
  obtain ⟨B, GA, GB, hsz⟩ := hb _ rfl
  generalize ((w.alloc (.cells #[.bool s, .slice a m c, .int .i64 E] 44)).alloc (.cells #[.bool s', .slice a' m' c', .slice b' n' k'] 26)) = W0 at B GA GB hsz ⊢
  clear hb
  refine (lalive5 (hT.behind B)).mono ?_
  rintro e v1 ⟨rfl, bb⟩
  replace GA := GA.behind bb
  replace GB := GB.behind bb
  replace B := below_both B bb
  have GAc0 := GA.cell (i := 0) rfl
  have GAc1 := GA.cell (i := 1) rfl
  have GAc2 := GA.cell (i := 2) rfl
  have GBc0 := GB.cell (i := 0) rfl
  have GBc1 := GB.cell (i := 1) rfl
  have GBc2 := GB.cell (i := 2) rfl
  go_wp2_with fail
  clear GAc0 GAc1 GAc2 GBc0 GBc1 GBc2
  obtain ⟨bx, S, zx⟩ := hbs v1 _ _ _ _ _ _ _ _ rfl
  generalize (v1.alloc (.cells #[.bool s', .slice a' m' c', .slice b' n' k'] 26)) = y1 at bx S zx ⊢
  replace GA := GA.behind bx
  replace GB := GB.behind bx
  replace B := below_both B bx
  clear bx zx
  refine (few_one_is _ _ S HS.out).mono ?_
  rintro e v2 ⟨rfl, bb⟩
  replace GA := GA.behind bb
  replace GB := GB.behind bb
  replace B := below_both B bb
  clear S bb
  go_wp2
  go_ret
  exact ⟨rfl, B⟩
set_option maxRecDepth 100000 in
set_option maxHeartbeats 2000000 in
theorem ofl_ok {s s' : Bool} {a a' b' : Option Addr} {m c m' c' n' k' D' i : Nat} {E x x' : Int} {w : World} (zA : Wv w s a m c x i) (zB : Wv w s' a' m' c' x' i) (hD : Num w (.slice b' n' k') D' i) (hT : TabOk w) (hm : m ≤ 6) (HS : Hid (sm m' n' = true)) (H1 : Hid (D' ≠ 0)) :
    Calls Tryd.prog 4 #[.agg #[.bool s, .slice a m c, .int .i64 E], .agg #[.bool s', .slice a' m' c', .slice b' n' k']] w fun e W' => e = .returned (.bool true) ∧ Below w.heap.size w W' := by
  have hb := dbox2 w #[.bool s, .slice a m c, .int .i64 E] #[.bool s', .slice a' m' c', .slice b' n' k'] 44 26
  have hbs := fun W p a m k b n l => dbox1 W #[.bool p, .slice a m k, .slice b n l] 26
  have h1 : decide ((6 : Int) < (m : Int)) = false := decide_eq_false (by omega)
  have h2 : decide (6 < m) = false := decide_eq_false (by omega)
  replace zA := zA.len hm
  obtain ⟨t1, t2⟩ : m' ≤ 6 ∧ n' ≤ 6 := by have := HS.out; simp only [sm, Bool.and_eq_true, decide_eq_true_iff] at this; exact this
  replace zB := zB.len t1
  replace hD := num_len hD t2
  obtain ⟨F, hF⟩ : ∃ F, F = E.tmod 400 := ⟨_, rfl⟩
  have HF0 := Lib.hid hF
  have hf1 := Int.tmod_lt_of_pos E (b := 400) (by decide)
  have hf2 : -400 < E.tmod 400 := by have := Int.tmod_lt_of_pos (-E) (b := 400) (by decide); rw [Int.neg_tmod] at this; omega
  rw [← hF] at hf1 hf2
  have HM : Hid (mayB m F = true) := Lib.hid (mayB_iff.2 ⟨by omega, by omega, by omega⟩)
  obtain ⟨P, hP⟩ : ∃ P : Nat, P = F.toNat := ⟨_, rfl⟩
  obtain ⟨Q, hQ⟩ : ∃ Q : Nat, Q = (-F).toNat := ⟨_, rfl⟩
  have hmP : max F 0 = (P : Int) := by omega
  have hmQ : max (-F) 0 = (Q : Int) := by omega
  have hwF : IntKind.i64.wrap (-F) = -F := IntWalk.i64_in _ (by omega)
  have HPb : Hid (P ≤ 400) := Lib.hid (by omega)
  have HQb : Hid (Q ≤ 400) := Lib.hid (by omega)
  obtain ⟨K, hK⟩ : ∃ K : Nat, K = 7 := ⟨_, rfl⟩
  have T1 : 2 ^ P < 18446744073709551616 ^ K := two_lt' (by omega)
  have T2 : 2 ^ Q < 18446744073709551616 ^ K := two_lt' (by omega)
  have HI : Hid (K = 7) := Lib.hid hK
  have q0 := zA.lt
  have N1 : (x * 2 ^ P).natAbs < 18446744073709551616 ^ (6 + K) := by
    rw [Int.natAbs_mul, Int.natAbs_pow]
    exact pow_mul_lt q0 T1
  have N2 : 2 ^ Q < 18446744073709551616 ^ (6 + K) := Nat.lt_of_lt_of_le T2 (Nat.pow_le_pow_right (by decide) (by omega))
  obtain ⟨z5, d5, e5, f5, Z5, E5, Q5, U5, V5⟩ := told_facts (N := x * 2 ^ P) (M := 2 ^ Q) (k := 6 + K) (Nat.pos_iff_ne_zero.1 (Nat.pow_pos (by decide))) N1 N2
  have C5 : Hid (∀ W : World, Below w.heap.size w W → Calls Tryd.prog 24 #[.agg #[.bool s, .slice a m c, .int .i64 F]] W (RQ W z5 d5 0)) := Lib.hid fun W b => by
    have := rof_ok (zA.behind b) (by decide) HM (hT.behind b)
    rwa [← hP, ← hQ, e5, f5] at this
  have HT1 := Lib.hid T1
  have HT2 := Lib.hid T2
  obtain ⟨z7, d7, e7, f7, Z7, E7, Q7, U7, V7⟩ := told_facts (N := x') (M := D') (k := 6) H1.out zB.lt hD.lt
  have C7 : Hid (∀ W : World, Below w.heap.size w W → Calls Tryd.prog 25 #[.agg #[.bool s', .slice a' m' c', .slice b' n' k']] W (RQ W z7 d7 0)) := Lib.hid fun W b => by
    have := rnorm_ok (zB.behind b) (hD.behind b) (by decide) H1 (hT.behind b)
    rwa [e7, f7] at this
  clear e7 f7 U7
  clear t1 t2 hF hf1 hf2 hP hQ hK T1 T2 q0 N1 N2 e5 f5 U5 HM hm
  go_enter Tryd.func4, Tryd.ntmps4
  go_wp2_with fail
  obtain ⟨B, GA, GB, hsz⟩ := hb _ rfl
  generalize ((w.alloc (.cells #[.bool s, .slice a m c, .int .i64 E] 44)).alloc (.cells #[.bool s', .slice a' m' c', .slice b' n' k'] 26)) = W0 at B GA GB hsz ⊢
  clear hb
  refine (lalive5 (hT.behind B)).mono ?_
  rintro e v1 ⟨rfl, bb⟩
  replace GA := GA.behind bb
  replace GB := GB.behind bb
  replace B := below_both B bb
  have GAc0 := GA.cell (i := 0) rfl
  have GAc1 := GA.cell (i := 1) rfl
  have GAc2 := GA.cell (i := 2) rfl
  have GBc0 := GB.cell (i := 0) rfl
  have GBc1 := GB.cell (i := 1) rfl
  have GBc2 := GB.cell (i := 2) rfl
  go_wp2_with fail
  clear GAc0 GAc1 GAc2 GBc0 GBc1 GBc2
  obtain ⟨bx, S, zx⟩ := hbs v1 _ _ _ _ _ _ _ _ rfl
  generalize (v1.alloc (.cells #[.bool s', .slice a' m' c', .slice b' n' k'] 26)) = y1 at bx S zx ⊢
  replace GA := GA.behind bx
  replace GB := GB.behind bx
  replace B := below_both B bx
  clear bx zx
  refine (few_one_is _ _ S HS.out).mono ?_
  rintro e v2 ⟨rfl, bb⟩
  replace GA := GA.behind bb
  replace GB := GB.behind bb
  replace B := below_both B bb
  clear S bb
  have GAc0 := GA.cell (i := 0) rfl
  have GAc1 := GA.cell (i := 1) rfl
  have GAc2 := GA.cell (i := 2) rfl
  have GBc0 := GB.cell (i := 0) rfl
  have GBc1 := GB.cell (i := 1) rfl
  have GBc2 := GB.cell (i := 2) rfl
  have f2 := GA.f 2
  go_wp2_with fail
  clear f2 GAc0 GAc1 GAc2 GBc0 GBc1 GBc2
  replace GA : Cs _ w.heap.size #[.bool s, .slice a m c, .int .i64 (E.tmod 400)] 44 := GA.set 2 (.int .i64 (E.tmod 400))
  replace GB := GB.put (p := ⟨w.heap.size, 2, none⟩) (by show w.heap.size + 1 ≠ w.heap.size; omega) (.int .i64 (E.tmod 400))
  replace B := B.setCell (p := ⟨w.heap.size, 2, none⟩) (by show w.heap.size ≤ w.heap.size; omega) (.int .i64 (E.tmod 400))
  generalize (v2.setCell ⟨w.heap.size, 2, none⟩ (.int .i64 (E.tmod 400))) = X0 at GA GB B ⊢
  generalize hg : E.tmod 400 = T at GA ⊢
  obtain rfl : F = T := HF0.out.trans hg
  clear hg
  refine (C5.out _ B).mono ?_
  rintro e v3 ⟨p5, a5, m5, k5, b5, n5, l5, u5, rfl, nf5, nd5, bb, hu⟩
  subst hu
  obtain ⟨bx, G5, zx⟩ := hbs v3 p5 a5 m5 k5 b5 n5 l5 _ rfl
  replace GA := (GA.behind bb).behind bx
  replace GB := (GB.behind bb).behind bx
  replace nf5 := nf5.behind bx
  replace nd5 := nd5.behind bx
  replace B := below_both (below_both B bb) bx
  clear bb zx
  have GAc0 := GA.cell (i := 0) rfl
  have GAc1 := GA.cell (i := 1) rfl
  have GAc2 := GA.cell (i := 2) rfl
  have GBc0 := GB.cell (i := 0) rfl
  have GBc1 := GB.cell (i := 1) rfl
  have GBc2 := GB.cell (i := 2) rfl
  have G5c0 := G5.cell (i := 0) rfl
  have G5c1 := G5.cell (i := 1) rfl
  have G5c2 := G5.cell (i := 2) rfl
  go_wp2_with fail
  clear bx GAc0 GAc1 GAc2 GBc0 GBc1 GBc2 G5c0 G5c1 G5c2
  generalize (v3.alloc (.cells #[.bool p5, .slice a5 m5 k5, .slice b5 n5 l5] 26)) = y3 at GA GB G5 nf5 nd5 B ⊢
  generalize v3.heap.size = g5 at G5 ⊢
  refine (C7.out _ B).mono ?_
  rintro e v4 ⟨p7, a7, m7, k7, b7, n7, l7, u7, rfl, nf7, nd7, bb, hu⟩
  subst hu
  obtain ⟨bx, G7, zx⟩ := hbs v4 p7 a7 m7 k7 b7 n7 l7 _ rfl
  replace GA := (GA.behind bb).behind bx
  replace GB := (GB.behind bb).behind bx
  replace G5 := (G5.behind bb).behind bx
  replace nf5 := (nf5.behind bb).behind bx
  replace nd5 := (nd5.behind bb).behind bx
  replace nf7 := nf7.behind bx
  replace nd7 := nd7.behind bx
  replace B := below_both (below_both B bb) bx
  clear bb zx
  go_upto_region 8 with (fail)
  generalize (v4.alloc (.cells #[.bool p7, .slice a7 m7 k7, .slice b7 n7 l7] 26)) = Y at bx GA GB G5 nf5 nd5 G7 nf7 nd7 B ⊢
  generalize v4.heap.size = g7 at G7 ⊢
  clear bx
  obtain ⟨BY, GL, GN, zz⟩ := dbox2 Y #[.int .u64 1] #[.bool s, .slice a m c] 47 24 _ rfl
  have hone : Num ((Y.alloc (.cells #[.int .u64 1] 47)).alloc (.cells #[.bool s, .slice a m c] 24)) (.slice (some ⟨Y.heap.size, 0, none⟩) 1 1) 1 1 := (num_one Y 1 (by decide)).behind (bel_alloc _ (.cells #[.bool s, .slice a m c] 24))
  have a0 := GA.cell (i := 0) rfl
  have a1 := GA.cell (i := 1) rfl
  have c2 := (GA.behind BY).cell (i := 2) rfl
  have e0 := GN.cell (i := 0) rfl
  have e1 := GN.cell (i := 1) rfl
  go_wp2_with fail
  clear a0 a1 c2 e0 e1 GL
  generalize ((Y.alloc (.cells #[.int .u64 1] 47)).alloc (.cells #[.bool s, .slice a m c] 24)) = Y2 at BY GN hone zz ⊢
  obtain ⟨M, hM, hx⟩ := zA
  have BW := B.trans (BY.mono B.size)
  refine (shl_num (hM.behind BW) (by decide) (m := P) (Nat.le_trans HPb.out (by decide))).mono ?_
  rintro e u1 ⟨v, rfl, nt, bb⟩
  obtain ⟨va, vc, rfl, -⟩ := nt.slice
  replace BY := BY.trans (bb.mono BY.size)
  replace GN := GN.behind bb
  replace hone := hone.behind bb
  replace nt := nt.put (p := ⟨Y.heap.size + 1, 1, none⟩) (by show Y.heap.size + 1 < Y2.heap.size; omega) (.slice va (digs 18446744073709551616 (M * 2 ^ P)).length vc)
  replace hone := num_keep hone (p := ⟨Y.heap.size + 1, 1, none⟩) (by show Y.heap.size + 1 ≠ Y.heap.size; omega) (.slice va (digs 18446744073709551616 (M * 2 ^ P)).length vc)
  have f1 := GN.f 1
  have e1 := GN.cell (i := 1) (v := .slice a m c) rfl
  replace GN : Cs _ (Y.heap.size + 1) #[.bool s, .slice va (digs 18446744073709551616 (M * 2 ^ P)).length vc] 24 := GN.set 1 (.slice va (digs 18446744073709551616 (M * 2 ^ P)).length vc)
  replace BY := BY.setCell (p := ⟨Y.heap.size + 1, 1, none⟩) (by show Y.heap.size ≤ Y.heap.size + 1; omega) (.slice va (digs 18446744073709551616 (M * 2 ^ P)).length vc)
  have c2 := (GA.behind BY).cell (i := 2) rfl
  go_wp2_with fail
  clear c2 f1 e1 bb BW
  generalize (u1.setCell ⟨Y.heap.size + 1, 1, none⟩ (.slice va (digs 18446744073709551616 (M * 2 ^ P)).length vc)) = Y3 at BY GN hone nt ⊢
  generalize (digs 18446744073709551616 (M * 2 ^ P)).length = vl at *
  refine (shl_num hone (by decide) (m := Q) (Nat.le_trans HQb.out (by decide))).mono ?_
  rintro e u2 ⟨v, rfl, nu, bb⟩
  rw [Nat.one_mul] at nu
  obtain ⟨ua, uc, rfl, -⟩ := nu.slice
  generalize (digs 18446744073709551616 (2 ^ Q)).length = ul at *
  replace BY := BY.trans (bb.mono BY.size)
  replace GN := GN.behind bb
  replace nt := nt.behind bb
  have c0 := (G5.behind BY).cell (i := 0) rfl
  have c1 := (G5.behind BY).cell (i := 1) rfl
  have c2 := (G5.behind BY).cell (i := 2) rfl
  have e0 := GN.cell (i := 0) rfl
  have e1 := GN.cell (i := 1) rfl
  go_wp2_with fail
  clear c0 c1 c2 e0 e1 bb hone
  have zY : Wv u2 s va vl vc (x * 2 ^ P) (6 + K) := ⟨M * 2 ^ P, nt.num (pow_mul_lt hM.lt HT1.out), by rw [hx, wn_scale]⟩
  have hDq : Num u2 (.slice ua ul uc) (2 ^ Q) (6 + K) := (nu.num HT2.out).more (Nat.le_add_left _ _)
  refine (lis5 (nf5.behind BY) (nd5.behind BY) zY hDq Z5.out E5.out (by have := HI.out; omega) (hT.behind (B.trans (BY.mono B.size))) V5 Q5).mono ?_
  rintro e u3 ⟨rfl, bb⟩
  replace BY := BY.trans (bb.mono BY.size)
  have c0 := (GB.behind BY).cell (i := 0) rfl
  have c1 := (GB.behind BY).cell (i := 1) rfl
  have c2 := (GB.behind BY).cell (i := 2) rfl
  clear zY hDq nt nu GN G5 nf5 nd5 bb
  go_wp2_with fail
  refine (bits_may (hD.behind (B.trans (BY.mono B.size))) (by decide) H1.out).mono ?_
  rintro e u4 ⟨q, rfl, hq, bb⟩
  replace BY := BY.trans (bb.mono BY.size)
  clear c0 c1 c2 bb
  have c0 := (GB.behind BY).cell (i := 0) rfl
  have c1 := (GB.behind BY).cell (i := 1) rfl
  have c2 := (GB.behind BY).cell (i := 2) rfl
  have e0 := (G7.behind BY).cell (i := 0) rfl
  have e1 := (G7.behind BY).cell (i := 1) rfl
  have e2 := (G7.behind BY).cell (i := 2) rfl
  go_wp2_with fail
  clear e0 e1 e2
  refine (rcheck_ok (hD.behind (B.trans (BY.mono B.size))) (by decide) H1.out).mono ?_
  rintro e u5 ⟨rfl, bb⟩
  replace BY := BY.trans (bb.mono BY.size)
  clear c0 c1 c2 bb
  have c0 := (GB.behind BY).cell (i := 0) rfl
  have c1 := (GB.behind BY).cell (i := 1) rfl
  have c2 := (GB.behind BY).cell (i := 2) rfl
  have e0 := (G7.behind BY).cell (i := 0) rfl
  have e1 := (G7.behind BY).cell (i := 1) rfl
  have e2 := (G7.behind BY).cell (i := 2) rfl
  go_wp2_with fail
  clear e0 e1 e2
  refine (lis5 (nf7.behind BY) (nd7.behind BY) (zB.behind (B.trans (BY.mono B.size))) (hD.behind (B.trans (BY.mono B.size))) Z7.out E7.out (by decide) (hT.behind (B.trans (BY.mono B.size))) V7 Q7).mono ?_
  rintro e u6 ⟨rfl, bb⟩
  replace BY := BY.trans (bb.mono BY.size)
  go_wp2
  go_ret
  exact ⟨rfl, (B.trans (BY.mono B.size))⟩
set_option maxRecDepth 100000 in
set_option maxHeartbeats 2000000 in
theorem ofl_no {s s' : Bool} {a a' b' : Option Addr} {m c m' c' n' k' D' i : Nat} {E x x' : Int} {w : World} (zA : Wv w s a m c x i) (zB : Wv w s' a' m' c' x' i) (hD : Num w (.slice b' n' k') D' i) (hT : TabOk w) (hm : m ≤ 6) (HS : Hid (sm m' n' = true)) (H1 : Hid (D' = 0)) :
    Calls Tryd.prog 4 #[.agg #[.bool s, .slice a m c, .int .i64 E], .agg #[.bool s', .slice a' m' c', .slice b' n' k']] w fun e W' => e = .returned (.bool true) ∧ Below w.heap.size w W' := by
  have hb := dbox2 w #[.bool s, .slice a m c, .int .i64 E] #[.bool s', .slice a' m' c', .slice b' n' k'] 44 26
  have hbs := fun W p a m k b n l => dbox1 W #[.bool p, .slice a m k, .slice b n l] 26
  have h1 : decide ((6 : Int) < (m : Int)) = false := decide_eq_false (by omega)
  have h2 : decide (6 < m) = false := decide_eq_false (by omega)
  replace zA := zA.len hm
  obtain ⟨t1, t2⟩ : m' ≤ 6 ∧ n' ≤ 6 := by have := HS.out; simp only [sm, Bool.and_eq_true, decide_eq_true_iff] at this; exact this
  replace zB := zB.len t1
  replace hD := num_len hD t2
  obtain ⟨F, hF⟩ : ∃ F, F = E.tmod 400 := ⟨_, rfl⟩
  have HF0 := Lib.hid hF
  have hf1 := Int.tmod_lt_of_pos E (b := 400) (by decide)
  have hf2 : -400 < E.tmod 400 := by have := Int.tmod_lt_of_pos (-E) (b := 400) (by decide); rw [Int.neg_tmod] at this; omega
  rw [← hF] at hf1 hf2
  have HM : Hid (mayB m F = true) := Lib.hid (mayB_iff.2 ⟨by omega, by omega, by omega⟩)
  obtain ⟨P, hP⟩ : ∃ P : Nat, P = F.toNat := ⟨_, rfl⟩
  obtain ⟨Q, hQ⟩ : ∃ Q : Nat, Q = (-F).toNat := ⟨_, rfl⟩
  have hmP : max F 0 = (P : Int) := by omega
  have hmQ : max (-F) 0 = (Q : Int) := by omega
  have hwF : IntKind.i64.wrap (-F) = -F := IntWalk.i64_in _ (by omega)
  have HPb : Hid (P ≤ 400) := Lib.hid (by omega)
  have HQb : Hid (Q ≤ 400) := Lib.hid (by omega)
  obtain ⟨K, hK⟩ : ∃ K : Nat, K = 7 := ⟨_, rfl⟩
  have T1 : 2 ^ P < 18446744073709551616 ^ K := two_lt' (by omega)
  have T2 : 2 ^ Q < 18446744073709551616 ^ K := two_lt' (by omega)
  have HI : Hid (K = 7) := Lib.hid hK
  have q0 := zA.lt
  have N1 : (x * 2 ^ P).natAbs < 18446744073709551616 ^ (6 + K) := by
    rw [Int.natAbs_mul, Int.natAbs_pow]
    exact pow_mul_lt q0 T1
  have N2 : 2 ^ Q < 18446744073709551616 ^ (6 + K) := Nat.lt_of_lt_of_le T2 (Nat.pow_le_pow_right (by decide) (by omega))
  obtain ⟨z5, d5, e5, f5, Z5, E5, Q5, U5, V5⟩ := told_facts (N := x * 2 ^ P) (M := 2 ^ Q) (k := 6 + K) (Nat.pos_iff_ne_zero.1 (Nat.pow_pos (by decide))) N1 N2
  have C5 : Hid (∀ W : World, Below w.heap.size w W → Calls Tryd.prog 24 #[.agg #[.bool s, .slice a m c, .int .i64 F]] W (RQ W z5 d5 0)) := Lib.hid fun W b => by
    have := rof_ok (zA.behind b) (by decide) HM (hT.behind b)
    rwa [← hP, ← hQ, e5, f5] at this
  have HT1 := Lib.hid T1
  have HT2 := Lib.hid T2
  have C7 : Hid (∀ W : World, Below w.heap.size w W → Calls Tryd.prog 25 #[.agg #[.bool s', .slice a' m' c', .slice b' n' k']] W (RQ W 0 0 9)) := Lib.hid fun W b => rnorm_no (zB.behind b) (hD.behind b) (by decide) H1
  clear t1 t2 hF hf1 hf2 hP hQ hK T1 T2 q0 N1 N2 e5 f5 U5 HM hm
  go_enter Tryd.func4, Tryd.ntmps4
  go_wp2_with fail
  obtain ⟨B, GA, GB, hsz⟩ := hb _ rfl
  generalize ((w.alloc (.cells #[.bool s, .slice a m c, .int .i64 E] 44)).alloc (.cells #[.bool s', .slice a' m' c', .slice b' n' k'] 26)) = W0 at B GA GB hsz ⊢
  clear hb
  refine (lalive5 (hT.behind B)).mono ?_
  rintro e v1 ⟨rfl, bb⟩
  replace GA := GA.behind bb
  replace GB := GB.behind bb
  replace B := below_both B bb
  have GAc0 := GA.cell (i := 0) rfl
  have GAc1 := GA.cell (i := 1) rfl
  have GAc2 := GA.cell (i := 2) rfl
  have GBc0 := GB.cell (i := 0) rfl
  have GBc1 := GB.cell (i := 1) rfl
  have GBc2 := GB.cell (i := 2) rfl
  go_wp2_with fail
  clear GAc0 GAc1 GAc2 GBc0 GBc1 GBc2
  obtain ⟨bx, S, zx⟩ := hbs v1 _ _ _ _ _ _ _ _ rfl
  generalize (v1.alloc (.cells #[.bool s', .slice a' m' c', .slice b' n' k'] 26)) = y1 at bx S zx ⊢
  replace GA := GA.behind bx
  replace GB := GB.behind bx
  replace B := below_both B bx
  clear bx zx
  refine (few_one_is _ _ S HS.out).mono ?_
  rintro e v2 ⟨rfl, bb⟩
  replace GA := GA.behind bb
  replace GB := GB.behind bb
  replace B := below_both B bb
  clear S bb
  have GAc0 := GA.cell (i := 0) rfl
  have GAc1 := GA.cell (i := 1) rfl
  have GAc2 := GA.cell (i := 2) rfl
  have GBc0 := GB.cell (i := 0) rfl
  have GBc1 := GB.cell (i := 1) rfl
  have GBc2 := GB.cell (i := 2) rfl
  have f2 := GA.f 2
  go_wp2_with fail
  clear f2 GAc0 GAc1 GAc2 GBc0 GBc1 GBc2
  replace GA : Cs _ w.heap.size #[.bool s, .slice a m c, .int .i64 (E.tmod 400)] 44 := GA.set 2 (.int .i64 (E.tmod 400))
  replace GB := GB.put (p := ⟨w.heap.size, 2, none⟩) (by show w.heap.size + 1 ≠ w.heap.size; omega) (.int .i64 (E.tmod 400))
  replace B := B.setCell (p := ⟨w.heap.size, 2, none⟩) (by show w.heap.size ≤ w.heap.size; omega) (.int .i64 (E.tmod 400))
  generalize (v2.setCell ⟨w.heap.size, 2, none⟩ (.int .i64 (E.tmod 400))) = X0 at GA GB B ⊢
  generalize hg : E.tmod 400 = T at GA ⊢
  obtain rfl : F = T := HF0.out.trans hg
  clear hg
  refine (C5.out _ B).mono ?_
  rintro e v3 ⟨p5, a5, m5, k5, b5, n5, l5, u5, rfl, nf5, nd5, bb, hu⟩
  subst hu
  obtain ⟨bx, G5, zx⟩ := hbs v3 p5 a5 m5 k5 b5 n5 l5 _ rfl
  replace GA := (GA.behind bb).behind bx
  replace GB := (GB.behind bb).behind bx
  replace nf5 := nf5.behind bx
  replace nd5 := nd5.behind bx
  replace B := below_both (below_both B bb) bx
  clear bb zx
  have GAc0 := GA.cell (i := 0) rfl
  have GAc1 := GA.cell (i := 1) rfl
  have GAc2 := GA.cell (i := 2) rfl
  have GBc0 := GB.cell (i := 0) rfl
  have GBc1 := GB.cell (i := 1) rfl
  have GBc2 := GB.cell (i := 2) rfl
  have G5c0 := G5.cell (i := 0) rfl
  have G5c1 := G5.cell (i := 1) rfl
  have G5c2 := G5.cell (i := 2) rfl
  go_wp2_with fail
  clear bx GAc0 GAc1 GAc2 GBc0 GBc1 GBc2 G5c0 G5c1 G5c2
  generalize (v3.alloc (.cells #[.bool p5, .slice a5 m5 k5, .slice b5 n5 l5] 26)) = y3 at GA GB G5 nf5 nd5 B ⊢
  generalize v3.heap.size = g5 at G5 ⊢
  refine (C7.out _ B).mono ?_
  rintro e v4 ⟨p7, a7, m7, k7, b7, n7, l7, u7, rfl, nf7, nd7, bb, hu⟩
  subst hu
  obtain ⟨bx, G7, zx⟩ := hbs v4 p7 a7 m7 k7 b7 n7 l7 _ rfl
  replace GA := (GA.behind bb).behind bx
  replace GB := (GB.behind bb).behind bx
  replace G5 := (G5.behind bb).behind bx
  replace nf5 := (nf5.behind bb).behind bx
  replace nd5 := (nd5.behind bb).behind bx
  replace nf7 := nf7.behind bx
  replace nd7 := nd7.behind bx
  replace B := below_both (below_both B bb) bx
  clear bb zx
  go_upto_region 8 with (fail)
  generalize (v4.alloc (.cells #[.bool p7, .slice a7 m7 k7, .slice b7 n7 l7] 26)) = Y at bx GA GB G5 nf5 nd5 G7 nf7 nd7 B ⊢
  generalize v4.heap.size = g7 at G7 ⊢
  clear bx
  obtain ⟨BY, GL, GN, zz⟩ := dbox2 Y #[.int .u64 1] #[.bool s, .slice a m c] 47 24 _ rfl
  have hone : Num ((Y.alloc (.cells #[.int .u64 1] 47)).alloc (.cells #[.bool s, .slice a m c] 24)) (.slice (some ⟨Y.heap.size, 0, none⟩) 1 1) 1 1 := (num_one Y 1 (by decide)).behind (bel_alloc _ (.cells #[.bool s, .slice a m c] 24))
  have a0 := GA.cell (i := 0) rfl
  have a1 := GA.cell (i := 1) rfl
  have c2 := (GA.behind BY).cell (i := 2) rfl
  have e0 := GN.cell (i := 0) rfl
  have e1 := GN.cell (i := 1) rfl
  go_wp2_with fail
  clear a0 a1 c2 e0 e1 GL
  generalize ((Y.alloc (.cells #[.int .u64 1] 47)).alloc (.cells #[.bool s, .slice a m c] 24)) = Y2 at BY GN hone zz ⊢
  obtain ⟨M, hM, hx⟩ := zA
  have BW := B.trans (BY.mono B.size)
  refine (shl_num (hM.behind BW) (by decide) (m := P) (Nat.le_trans HPb.out (by decide))).mono ?_
  rintro e u1 ⟨v, rfl, nt, bb⟩
  obtain ⟨va, vc, rfl, -⟩ := nt.slice
  replace BY := BY.trans (bb.mono BY.size)
  replace GN := GN.behind bb
  replace hone := hone.behind bb
  replace nt := nt.put (p := ⟨Y.heap.size + 1, 1, none⟩) (by show Y.heap.size + 1 < Y2.heap.size; omega) (.slice va (digs 18446744073709551616 (M * 2 ^ P)).length vc)
  replace hone := num_keep hone (p := ⟨Y.heap.size + 1, 1, none⟩) (by show Y.heap.size + 1 ≠ Y.heap.size; omega) (.slice va (digs 18446744073709551616 (M * 2 ^ P)).length vc)
  have f1 := GN.f 1
  have e1 := GN.cell (i := 1) (v := .slice a m c) rfl
  replace GN : Cs _ (Y.heap.size + 1) #[.bool s, .slice va (digs 18446744073709551616 (M * 2 ^ P)).length vc] 24 := GN.set 1 (.slice va (digs 18446744073709551616 (M * 2 ^ P)).length vc)
  replace BY := BY.setCell (p := ⟨Y.heap.size + 1, 1, none⟩) (by show Y.heap.size ≤ Y.heap.size + 1; omega) (.slice va (digs 18446744073709551616 (M * 2 ^ P)).length vc)
  have c2 := (GA.behind BY).cell (i := 2) rfl
  go_wp2_with fail
  clear c2 f1 e1 bb BW
  generalize (u1.setCell ⟨Y.heap.size + 1, 1, none⟩ (.slice va (digs 18446744073709551616 (M * 2 ^ P)).length vc)) = Y3 at BY GN hone nt ⊢
  generalize (digs 18446744073709551616 (M * 2 ^ P)).length = vl at *
  refine (shl_num hone (by decide) (m := Q) (Nat.le_trans HQb.out (by decide))).mono ?_
  rintro e u2 ⟨v, rfl, nu, bb⟩
  rw [Nat.one_mul] at nu
  obtain ⟨ua, uc, rfl, -⟩ := nu.slice
  generalize (digs 18446744073709551616 (2 ^ Q)).length = ul at *
  replace BY := BY.trans (bb.mono BY.size)
  replace GN := GN.behind bb
  replace nt := nt.behind bb
  have c0 := (G5.behind BY).cell (i := 0) rfl
  have c1 := (G5.behind BY).cell (i := 1) rfl
  have c2 := (G5.behind BY).cell (i := 2) rfl
  have e0 := GN.cell (i := 0) rfl
  have e1 := GN.cell (i := 1) rfl
  go_wp2_with fail
  clear c0 c1 c2 e0 e1 bb hone
  have zY : Wv u2 s va vl vc (x * 2 ^ P) (6 + K) := ⟨M * 2 ^ P, nt.num (pow_mul_lt hM.lt HT1.out), by rw [hx, wn_scale]⟩
  have hDq : Num u2 (.slice ua ul uc) (2 ^ Q) (6 + K) := (nu.num HT2.out).more (Nat.le_add_left _ _)
  refine (lis5 (nf5.behind BY) (nd5.behind BY) zY hDq Z5.out E5.out (by have := HI.out; omega) (hT.behind (B.trans (BY.mono B.size))) V5 Q5).mono ?_
  rintro e u3 ⟨rfl, bb⟩
  replace BY := BY.trans (bb.mono BY.size)
  have c0 := (GB.behind BY).cell (i := 0) rfl
  have c1 := (GB.behind BY).cell (i := 1) rfl
  have c2 := (GB.behind BY).cell (i := 2) rfl
  clear zY hDq nt nu GN G5 nf5 nd5 bb
  go_wp2_with fail
  refine (bits_none (hD.behind (B.trans (BY.mono B.size))) (by decide) H1.out).mono ?_
  rintro e u4 ⟨rfl, bb⟩
  replace BY := BY.trans (bb.mono BY.size)
  clear c0 c1 c2 bb
  have c0 := (GB.behind BY).cell (i := 0) rfl
  have c1 := (GB.behind BY).cell (i := 1) rfl
  have c2 := (GB.behind BY).cell (i := 2) rfl
  have e0 := (G7.behind BY).cell (i := 0) rfl
  have e1 := (G7.behind BY).cell (i := 1) rfl
  have e2 := (G7.behind BY).cell (i := 2) rfl
  go_wp2_with fail
  clear e0 e1 e2
  refine (rcheck_no (hD.behind (B.trans (BY.mono B.size))) (by decide) H1.out).mono ?_
  rintro e u5 ⟨rfl, bb⟩
  replace BY := BY.trans (bb.mono BY.size)
  clear c0 c1 c2 bb
  have c0 := (GB.behind BY).cell (i := 0) rfl
  have c1 := (GB.behind BY).cell (i := 1) rfl
  have c2 := (GB.behind BY).cell (i := 2) rfl
  have e0 := (G7.behind BY).cell (i := 0) rfl
  have e1 := (G7.behind BY).cell (i := 1) rfl
  have e2 := (G7.behind BY).cell (i := 2) rfl
  go_wp2_with fail
  clear e0 e1 e2
  refine (lzero_new (nf7.behind BY) (nd7.behind BY)).mono ?_
  rintro e u6 ⟨rfl, bb⟩
  replace BY := BY.trans (bb.mono BY.size)
  go_wp2
  go_ret
  exact ⟨rfl, (B.trans (BY.mono B.size))⟩
theorem ofl_walk {s s' : Bool} {a a' b' : Option Addr} {m c m' c' n' k' D' i : Nat} {E x x' : Int} {w : World} (zA : Wv w s a m c x i) (zB : Wv w s' a' m' c' x' i) (hD : Num w (.slice b' n' k') D' i) (hT : TabOk w) :
    Calls Tryd.prog 4 #[.agg #[.bool s, .slice a m c, .int .i64 E], .agg #[.bool s', .slice a' m' c', .slice b' n' k']] w fun e W' => e = .returned (.bool true) ∧ Below w.heap.size w W' := by
  rcases Nat.lt_or_ge 6 m with h | h
  · exact ofl_big zA zB hD hT h
  · cases hs : sm m' n'
    · exact ofl_far zA zB hD hT h (Lib.hid hs)
    · by_cases h0 : D' = 0
      · exact ofl_no zA zB hD hT h (Lib.hid hs) (Lib.hid h0)
      · exact ofl_ok zA zB hD hT h (Lib.hid hs) (Lib.hid h0)
end Go.Proofs.YtfbnpdlkbabmfaaDoor
