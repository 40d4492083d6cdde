/- vernierlaw05.RatioTells, where both fractions may be. -/
import Derived.Test.YtfbnpdlkbabmfaaDoorRtTellsNo
namespace Go.Proofs.YtfbnpdlkbabmfaaDoor
open Go.RowKit Go.Shelf
attribute [local go_sem ↓] Go.wp_at_zero Go.wp_at_succ

set_option maxRecDepth 100000 in
set_option maxHeartbeats 2000000 in
theorem tells5_yes {s s' : Bool} {a a' b b' : Option Addr} {m c m' c' n k n' k' D D' i : Nat} {x x' : Int} {w : World} (zA : Wv w s a m c x i) (hD : Num w (.slice b n k) D i) (zA' : Wv w s' a' m' c' x' i) (hD' : Num w (.slice b' n' k') D' i) (hT : TabOk w) (HS : Hid ((sm m n && sm m' n') = true)) (H0 : Hid (D ≠ 0)) (H1 : Hid (D' ≠ 0)) :
    Calls Tryd.prog 3 #[.agg #[.bool s, .slice a m c, .slice b n k], .agg #[.bool s', .slice a' m' c', .slice b' n' k']] w fun e W' => e = .returned (.bool true) ∧ Below w.heap.size w W' := by
  have hb := dbox2 w #[.bool s, .slice a m c, .slice b n k] #[.bool s', .slice a' m' c', .slice b' n' k'] 26 26
  have hbs := fun W p a m k b n l => dbox1 W #[.bool p, .slice a m k, .slice b n l] 26
  have hbf := fun W => dbox1 W #[.bool s, .slice a m c, .slice b n k, .bool s', .slice a' m' c', .slice b' n' k'] 26
  have zA0 := zA
  obtain ⟨⟨s1, s2⟩, s3, s4⟩ : (m ≤ 6 ∧ n ≤ 6) ∧ m' ≤ 6 ∧ n' ≤ 6 := by have := HS.out; simp only [sm, Bool.and_eq_true, decide_eq_true_iff] at this; exact this
  replace zA := zA.len s1
  replace zA' := zA'.len s3
  replace hD := num_len hD s2
  replace hD' := num_len hD' s4
  clear s1 s2 s3 s4 zA0
  have q0 := zA.lt
  have q1 := hD.lt
  have q2 := zA'.lt
  have q3 := hD'.lt
  obtain ⟨z11, d11, q11, C11, hz11, hn11⟩ : ∃ (z11 : Int) (d11 : Nat) (q11 : Int), Hid (∀ W : World, Below w.heap.size w W → Calls Tryd.prog 12 #[.agg #[.bool s, .slice a m c, .slice b n k], .agg #[.bool s', .slice a' m' c', .slice b' n' k']] W (RQ W z11 d11 q11)) ∧ Hid (x' = 0 → z11 = 0 ∧ d11 = 0 ∧ q11 = 7) ∧ Hid (x' ≠ 0 → q11 = 0 ∧ z11.natAbs < 18446744073709551616 ^ 13 ∧ d11 < 18446744073709551616 ^ 13 ∧ Eqv z11 d11 (x * sg x' D') (D * x'.natAbs) ∧ Nat.gcd z11.natAbs d11 = 1) := by
    by_cases hx : x' = 0
    · exact ⟨0, 0, 7, Lib.hid fun W b => rdiv_zero (zA.behind b) (hD.behind b) (zA'.behind b) (hD'.behind b) (by decide) H0 H1 (hT.behind b) (Lib.hid hx), Lib.hid fun _ => ⟨rfl, rfl, rfl⟩, Lib.hid fun h => absurd hx h⟩
    · obtain ⟨z, d, e, f, Z, E, Q, U, V⟩ := told_facts (N := x * sg x' D') (M := D * x'.natAbs) (k := 13) (Nat.mul_ne_zero H0.out (by omega)) (mul_lt2 (i := 6) q0 (by rw [sg_abs]; exact q3)) (nmul_lt2 (i := 6) q1 q2)
      exact ⟨z, d, 0, Lib.hid fun W b => by
        have := rdiv_ok (zA.behind b) (hD.behind b) (zA'.behind b) (hD'.behind b) (by decide) H0 H1 (hT.behind b) (Lib.hid hx)
        rwa [e, f] at this, Lib.hid fun h => absurd h hx, Lib.hid fun _ => ⟨rfl, Z.out, E.out, Q.out, V.out⟩⟩
  obtain ⟨z5, d5, e5, f5, Z5, E5, Q5, U5, V5⟩ := told_facts (N := x * D' + x' * D) (M := D * D') (k := 13) (Nat.mul_ne_zero H0.out H1.out) (add_lt2 (i := 6) q0 q3 q2 q1) (nmul_lt2 (i := 6) q1 q3)
  have C5 : Hid (∀ W : World, Below w.heap.size w W → Calls Tryd.prog 9 #[.agg #[.bool s, .slice a m c, .slice b n k], .agg #[.bool s', .slice a' m' c', .slice b' n' k']] W (RQ W z5 d5 0)) := Lib.hid fun W b => by
    have := radd_ok (zA.behind b) (hD.behind b) (zA'.behind b) (hD'.behind b) (by omega) H0 H1 (hT.behind b)
    rwa [e5, f5] at this
  obtain ⟨z7, d7, e7, f7, Z7, E7, Q7, U7, V7⟩ := told_facts (N := x * D' - x' * D) (M := D * D') (k := 13) (Nat.mul_ne_zero H0.out H1.out) (sub_lt2 (i := 6) q0 q3 q2 q1) (nmul_lt2 (i := 6) q1 q3)
  have C7 : Hid (∀ W : World, Below w.heap.size w W → Calls Tryd.prog 10 #[.agg #[.bool s, .slice a m c, .slice b n k], .agg #[.bool s', .slice a' m' c', .slice b' n' k']] W (RQ W z7 d7 0)) := Lib.hid fun W b => by
    have := rsub_ok (zA.behind b) (hD.behind b) (zA'.behind b) (hD'.behind b) (by omega) H0 H1 (hT.behind b)
    rwa [e7, f7] at this
  obtain ⟨z9, d9, e9, f9, Z9, E9, Q9, U9, V9⟩ := told_facts (N := x * x') (M := D * D') (k := 13) (Nat.mul_ne_zero H0.out H1.out) (mul_lt2 (i := 6) q0 q2) (nmul_lt2 (i := 6) q1 q3)
  have C9 : Hid (∀ W : World, Below w.heap.size w W → Calls Tryd.prog 11 #[.agg #[.bool s, .slice a m c, .slice b n k], .agg #[.bool s', .slice a' m' c', .slice b' n' k']] W (RQ W z9 d9 0)) := Lib.hid fun W b => by
    have := rmul_ok (zA.behind b) (hD.behind b) (zA'.behind b) (hD'.behind b) (by omega) H0 H1 (hT.behind b)
    rwa [e9, f9] at this
  obtain ⟨cq, hcq⟩ : ∃ cq, cmpZ (x * D') (x' * D) = cq := ⟨_, rfl⟩
  have CC : Hid (∀ W : World, Below w.heap.size w W → Calls Tryd.prog 13 #[.agg #[.bool s, .slice a m c, .slice b n k], .agg #[.bool s', .slice a' m' c', .slice b' n' k']] W fun e W' => e = .returned (.tuple #[.int .i64 cq, .int .i64 0]) ∧ Below W.heap.size W W') := Lib.hid fun W b => by
    have := rcmp_ok (zA.behind b) (hD.behind b) (zA'.behind b) (hD'.behind b) (by decide) H0 H1 (hT.behind b)
    rwa [hcq] at this
  have HCQ := Lib.hid hcq
  clear hcq q0 q1 q2 q3 e5 f5 U5 e7 f7 U7 e9 f9 U9
  go_enter Tryd.func3, Tryd.ntmps3
  go_wp2_with fail
  obtain ⟨B, GA, GB, hsz⟩ := hb _ rfl
  generalize ((w.alloc (.cells #[.bool s, .slice a m c, .slice b n k] 26)).alloc (.cells #[.bool s', .slice a' m' c', .slice b' n' k'] 26)) = W0 at B GA GB hsz ⊢
  clear hb hsz
  refine (lalive5 (hT.behind B)).mono ?_
  rintro e v1 ⟨rfl, bb⟩
  replace GA := GA.behind bb
  replace GB := GB.behind bb
  replace B := below_both B bb
  have GAc0 := GA.cell (i := 0) rfl
  have GAc1 := GA.cell (i := 1) rfl
  have GAc2 := GA.cell (i := 2) rfl
  have GBc0 := GB.cell (i := 0) rfl
  have GBc1 := GB.cell (i := 1) rfl
  have GBc2 := GB.cell (i := 2) rfl
  go_wp2_with fail
  clear GAc0 GAc1 GAc2 GBc0 GBc1 GBc2
  obtain ⟨bx, S, zx⟩ := hbf v1 _ rfl
  generalize (v1.alloc (.cells #[.bool s, .slice a m c, .slice b n k, .bool s', .slice a' m' c', .slice b' n' k'] 26)) = y1 at bx S zx ⊢
  replace GA := GA.behind bx
  replace GB := GB.behind bx
  replace B := below_both B bx
  clear bx zx hbf
  refine (few_two_is _ _ S HS.out).mono ?_
  rintro e v2 ⟨rfl, bb⟩
  replace GA := GA.behind bb
  replace GB := GB.behind bb
  replace B := below_both B bb
  clear S bb
  have GAc0 := GA.cell (i := 0) rfl
  have GAc1 := GA.cell (i := 1) rfl
  have GAc2 := GA.cell (i := 2) rfl
  have GBc0 := GB.cell (i := 0) rfl
  have GBc1 := GB.cell (i := 1) rfl
  have GBc2 := GB.cell (i := 2) rfl
  go_wp2_with fail
  clear GAc0 GAc1 GAc2 GBc0 GBc1 GBc2
  refine (C5.out _ B).mono ?_
  rintro e v3 ⟨p5, a5, m5, k5, b5, n5, l5, u5, rfl, nf5, nd5, bb, hu⟩
  subst hu
  obtain ⟨bx, G5, zx⟩ := hbs v3 p5 a5 m5 k5 b5 n5 l5 _ rfl
  replace GA := (GA.behind bb).behind bx
  replace GB := (GB.behind bb).behind bx
  replace nf5 := nf5.behind bx
  replace nd5 := nd5.behind bx
  replace B := below_both (below_both B bb) bx
  clear bb zx
  have GAc0 := GA.cell (i := 0) rfl
  have GAc1 := GA.cell (i := 1) rfl
  have GAc2 := GA.cell (i := 2) rfl
  have GBc0 := GB.cell (i := 0) rfl
  have GBc1 := GB.cell (i := 1) rfl
  have GBc2 := GB.cell (i := 2) rfl
  have G5c0 := G5.cell (i := 0) rfl
  have G5c1 := G5.cell (i := 1) rfl
  have G5c2 := G5.cell (i := 2) rfl
  go_wp2_with fail
  clear bx GAc0 GAc1 GAc2 GBc0 GBc1 GBc2 G5c0 G5c1 G5c2
  generalize (v3.alloc (.cells #[.bool p5, .slice a5 m5 k5, .slice b5 n5 l5] 26)) = y3 at GA GB G5 nf5 nd5 B ⊢
  generalize v3.heap.size = g5 at G5 ⊢
  refine (C7.out _ B).mono ?_
  rintro e v4 ⟨p7, a7, m7, k7, b7, n7, l7, u7, rfl, nf7, nd7, bb, hu⟩
  subst hu
  obtain ⟨bx, G7, zx⟩ := hbs v4 p7 a7 m7 k7 b7 n7 l7 _ rfl
  replace GA := (GA.behind bb).behind bx
  replace GB := (GB.behind bb).behind bx
  replace G5 := (G5.behind bb).behind bx
  replace nf5 := (nf5.behind bb).behind bx
  replace nd5 := (nd5.behind bb).behind bx
  replace nf7 := nf7.behind bx
  replace nd7 := nd7.behind bx
  replace B := below_both (below_both B bb) bx
  clear bb zx
  have GAc0 := GA.cell (i := 0) rfl
  have GAc1 := GA.cell (i := 1) rfl
  have GAc2 := GA.cell (i := 2) rfl
  have GBc0 := GB.cell (i := 0) rfl
  have GBc1 := GB.cell (i := 1) rfl
  have GBc2 := GB.cell (i := 2) rfl
  have G5c0 := G5.cell (i := 0) rfl
  have G5c1 := G5.cell (i := 1) rfl
  have G5c2 := G5.cell (i := 2) rfl
  have G7c0 := G7.cell (i := 0) rfl
  have G7c1 := G7.cell (i := 1) rfl
  have G7c2 := G7.cell (i := 2) rfl
  go_wp2_with fail
  clear bx GAc0 GAc1 GAc2 GBc0 GBc1 GBc2 G5c0 G5c1 G5c2 G7c0 G7c1 G7c2
  generalize (v4.alloc (.cells #[.bool p7, .slice a7 m7 k7, .slice b7 n7 l7] 26)) = y4 at GA GB G5 G7 nf5 nd5 nf7 nd7 B ⊢
  generalize v4.heap.size = g7 at G7 ⊢
  refine (C9.out _ B).mono ?_
  rintro e v5 ⟨p9, a9, m9, k9, b9, n9, l9, u9, rfl, nf9, nd9, bb, hu⟩
  subst hu
  obtain ⟨bx, G9, zx⟩ := hbs v5 p9 a9 m9 k9 b9 n9 l9 _ rfl
  replace GA := (GA.behind bb).behind bx
  replace GB := (GB.behind bb).behind bx
  replace G5 := (G5.behind bb).behind bx
  replace G7 := (G7.behind bb).behind bx
  replace nf5 := (nf5.behind bb).behind bx
  replace nd5 := (nd5.behind bb).behind bx
  replace nf7 := (nf7.behind bb).behind bx
  replace nd7 := (nd7.behind bb).behind bx
  replace nf9 := nf9.behind bx
  replace nd9 := nd9.behind bx
  replace B := below_both (below_both B bb) bx
  clear bb zx
  have GAc0 := GA.cell (i := 0) rfl
  have GAc1 := GA.cell (i := 1) rfl
  have GAc2 := GA.cell (i := 2) rfl
  have GBc0 := GB.cell (i := 0) rfl
  have GBc1 := GB.cell (i := 1) rfl
  have GBc2 := GB.cell (i := 2) rfl
  have G5c0 := G5.cell (i := 0) rfl
  have G5c1 := G5.cell (i := 1) rfl
  have G5c2 := G5.cell (i := 2) rfl
  have G7c0 := G7.cell (i := 0) rfl
  have G7c1 := G7.cell (i := 1) rfl
  have G7c2 := G7.cell (i := 2) rfl
  have G9c0 := G9.cell (i := 0) rfl
  have G9c1 := G9.cell (i := 1) rfl
  have G9c2 := G9.cell (i := 2) rfl
  go_wp2_with fail
  clear bx GAc0 GAc1 GAc2 GBc0 GBc1 GBc2 G5c0 G5c1 G5c2 G7c0 G7c1 G7c2 G9c0 G9c1 G9c2
  generalize (v5.alloc (.cells #[.bool p9, .slice a9 m9 k9, .slice b9 n9 l9] 26)) = y5 at GA GB G5 G7 G9 nf5 nd5 nf7 nd7 nf9 nd9 B ⊢
  generalize v5.heap.size = g9 at G9 ⊢
  refine (C11.out _ B).mono ?_
  rintro e v6 ⟨p11, a11, m11, k11, b11, n11, l11, u11, rfl, nf11, nd11, bb, hu⟩
  subst hu
  obtain ⟨bx, G11, zx⟩ := hbs v6 p11 a11 m11 k11 b11 n11 l11 _ rfl
  replace GA := (GA.behind bb).behind bx
  replace GB := (GB.behind bb).behind bx
  replace G5 := (G5.behind bb).behind bx
  replace G7 := (G7.behind bb).behind bx
  replace G9 := (G9.behind bb).behind bx
  replace nf5 := (nf5.behind bb).behind bx
  replace nd5 := (nd5.behind bb).behind bx
  replace nf7 := (nf7.behind bb).behind bx
  replace nd7 := (nd7.behind bb).behind bx
  replace nf9 := (nf9.behind bb).behind bx
  replace nd9 := (nd9.behind bb).behind bx
  replace nf11 := nf11.behind bx
  replace nd11 := nd11.behind bx
  replace B := below_both (below_both B bb) bx
  clear bb zx
  have GAc0 := GA.cell (i := 0) rfl
  have GAc1 := GA.cell (i := 1) rfl
  have GAc2 := GA.cell (i := 2) rfl
  have GBc0 := GB.cell (i := 0) rfl
  have GBc1 := GB.cell (i := 1) rfl
  have GBc2 := GB.cell (i := 2) rfl
  have G5c0 := G5.cell (i := 0) rfl
  have G5c1 := G5.cell (i := 1) rfl
  have G5c2 := G5.cell (i := 2) rfl
  have G7c0 := G7.cell (i := 0) rfl
  have G7c1 := G7.cell (i := 1) rfl
  have G7c2 := G7.cell (i := 2) rfl
  have G9c0 := G9.cell (i := 0) rfl
  have G9c1 := G9.cell (i := 1) rfl
  have G9c2 := G9.cell (i := 2) rfl
  have G11c0 := G11.cell (i := 0) rfl
  have G11c1 := G11.cell (i := 1) rfl
  have G11c2 := G11.cell (i := 2) rfl
  go_wp2_with fail
  clear bx GAc0 GAc1 GAc2 GBc0 GBc1 GBc2 G5c0 G5c1 G5c2 G7c0 G7c1 G7c2 G9c0 G9c1 G9c2 G11c0 G11c1 G11c2
  generalize (v6.alloc (.cells #[.bool p11, .slice a11 m11 k11, .slice b11 n11 l11] 26)) = y6 at GA GB G5 G7 G9 G11 nf5 nd5 nf7 nd7 nf9 nd9 nf11 nd11 B ⊢
  generalize v6.heap.size = g11 at G11 ⊢
  refine (CC.out _ B).mono ?_
  rintro e v7 ⟨rfl, bb⟩
  replace GA := GA.behind bb
  replace GB := GB.behind bb
  replace G5 := G5.behind bb
  replace G7 := G7.behind bb
  replace G9 := G9.behind bb
  replace G11 := G11.behind bb
  replace nf5 := nf5.behind bb
  replace nd5 := nd5.behind bb
  replace nf7 := nf7.behind bb
  replace nd7 := nd7.behind bb
  replace nf9 := nf9.behind bb
  replace nd9 := nd9.behind bb
  replace nf11 := nf11.behind bb
  replace nd11 := nd11.behind bb
  replace B := below_both B bb
  clear bb
  have GAc0 := GA.cell (i := 0) rfl
  have GAc1 := GA.cell (i := 1) rfl
  have GAc2 := GA.cell (i := 2) rfl
  have GBc0 := GB.cell (i := 0) rfl
  have GBc1 := GB.cell (i := 1) rfl
  have GBc2 := GB.cell (i := 2) rfl
  have G5c0 := G5.cell (i := 0) rfl
  have G5c1 := G5.cell (i := 1) rfl
  have G5c2 := G5.cell (i := 2) rfl
  have G7c0 := G7.cell (i := 0) rfl
  have G7c1 := G7.cell (i := 1) rfl
  have G7c2 := G7.cell (i := 2) rfl
  have G9c0 := G9.cell (i := 0) rfl
  have G9c1 := G9.cell (i := 1) rfl
  have G9c2 := G9.cell (i := 2) rfl
  have G11c0 := G11.cell (i := 0) rfl
  have G11c1 := G11.cell (i := 1) rfl
  have G11c2 := G11.cell (i := 2) rfl
  go_wp2_with fail
  clear GAc0 GAc1 GAc2 GBc0 GBc1 GBc2 G5c0 G5c1 G5c2 G7c0 G7c1 G7c2 G9c0 G9c1 G9c2 G11c0 G11c1 G11c2
  refine (bits_may (hD.behind B) (by decide) H0.out).mono ?_
  rintro e v8 ⟨q0, rfl, hq0, bb⟩
  replace GA := GA.behind bb
  replace GB := GB.behind bb
  replace G5 := G5.behind bb
  replace G7 := G7.behind bb
  replace G9 := G9.behind bb
  replace G11 := G11.behind bb
  replace nf5 := nf5.behind bb
  replace nd5 := nd5.behind bb
  replace nf7 := nf7.behind bb
  replace nd7 := nd7.behind bb
  replace nf9 := nf9.behind bb
  replace nd9 := nd9.behind bb
  replace nf11 := nf11.behind bb
  replace nd11 := nd11.behind bb
  replace B := below_both B bb
  clear bb
  have GAc0 := GA.cell (i := 0) rfl
  have GAc1 := GA.cell (i := 1) rfl
  have GAc2 := GA.cell (i := 2) rfl
  have GBc0 := GB.cell (i := 0) rfl
  have GBc1 := GB.cell (i := 1) rfl
  have GBc2 := GB.cell (i := 2) rfl
  have G5c0 := G5.cell (i := 0) rfl
  have G5c1 := G5.cell (i := 1) rfl
  have G5c2 := G5.cell (i := 2) rfl
  have G7c0 := G7.cell (i := 0) rfl
  have G7c1 := G7.cell (i := 1) rfl
  have G7c2 := G7.cell (i := 2) rfl
  have G9c0 := G9.cell (i := 0) rfl
  have G9c1 := G9.cell (i := 1) rfl
  have G9c2 := G9.cell (i := 2) rfl
  have G11c0 := G11.cell (i := 0) rfl
  have G11c1 := G11.cell (i := 1) rfl
  have G11c2 := G11.cell (i := 2) rfl
  go_wp2_with fail
  clear GAc0 GAc1 GAc2 GBc0 GBc1 GBc2 G5c0 G5c1 G5c2 G7c0 G7c1 G7c2 G9c0 G9c1 G9c2 G11c0 G11c1 G11c2
  refine (bits_may (hD'.behind B) (by decide) H1.out).mono ?_
  rintro e v9 ⟨q1, rfl, hq1, bb⟩
  replace GA := GA.behind bb
  replace GB := GB.behind bb
  replace G5 := G5.behind bb
  replace G7 := G7.behind bb
  replace G9 := G9.behind bb
  replace G11 := G11.behind bb
  replace nf5 := nf5.behind bb
  replace nd5 := nd5.behind bb
  replace nf7 := nf7.behind bb
  replace nd7 := nd7.behind bb
  replace nf9 := nf9.behind bb
  replace nd9 := nd9.behind bb
  replace nf11 := nf11.behind bb
  replace nd11 := nd11.behind bb
  replace B := below_both B bb
  clear bb
  have GAc0 := GA.cell (i := 0) rfl
  have GAc1 := GA.cell (i := 1) rfl
  have GAc2 := GA.cell (i := 2) rfl
  have GBc0 := GB.cell (i := 0) rfl
  have GBc1 := GB.cell (i := 1) rfl
  have GBc2 := GB.cell (i := 2) rfl
  have G5c0 := G5.cell (i := 0) rfl
  have G5c1 := G5.cell (i := 1) rfl
  have G5c2 := G5.cell (i := 2) rfl
  have G7c0 := G7.cell (i := 0) rfl
  have G7c1 := G7.cell (i := 1) rfl
  have G7c2 := G7.cell (i := 2) rfl
  have G9c0 := G9.cell (i := 0) rfl
  have G9c1 := G9.cell (i := 1) rfl
  have G9c2 := G9.cell (i := 2) rfl
  have G11c0 := G11.cell (i := 0) rfl
  have G11c1 := G11.cell (i := 1) rfl
  have G11c2 := G11.cell (i := 2) rfl
  go_upto_region 12 with (fail)
  clear hq0 hq1 GAc0 GAc1 GAc2 GBc0 GBc1 GBc2 G5c0 G5c1 G5c2 G7c0 G7c1 G7c2 G9c0 G9c1 G9c2 G11c0 G11c1 G11c2
  go_cut [15, 16] from 103 to 114 (fun s t wx => XY v9 (x * D') (x' * D) 12 s t wx)
  case first =>
    have hA := GA.lt
    have hB := GB.lt
    have z0 : Wv v9 s a m c x 6 := zA.behind B
    have z1 : Wv v9 false b n k (D : Int) 6 := ⟨_, hD.behind B, by simp [wn]⟩
    have z2 : Wv v9 s' a' m' c' x' 6 := zA'.behind B
    have z3 : Wv v9 false b' n' k' (D' : Int) 6 := ⟨_, hD'.behind B, by simp [wn]⟩
    clear nf5 nd5 nf7 nd7 nf9 nd9 nf11 nd11 G5 G7 G9 G11 hbs HS hT
    have Br : Below v9.heap.size v9 v9 := Below.refl _ _
    have c0 := GA.cell (i := 0) rfl
    have c3 := GB.cell (i := 0) rfl
    have n0 := World.new_ne _ _ c0
    have n3 := World.new_ne _ _ c3
    go_wp2_with fail
    go_region_held3 (fun w' => w'.cell? ⟨w.heap.size, 0, none⟩ = some (.bool s) ∧ w'.cell? ⟨w.heap.size, 1, none⟩ = some (.slice a m c) ∧ w'.cell? ⟨w.heap.size, 2, none⟩ = some (.slice b n k) ∧ w'.cell? ⟨w.heap.size + 1, 0, none⟩ = some (.bool s') ∧ w'.cell? ⟨w.heap.size + 1, 1, none⟩ = some (.slice a' m' c') ∧ w'.cell? ⟨w.heap.size + 1, 2, none⟩ = some (.slice b' n' k')) (first | exact ⟨(GA.behind (by (repeat (first | with_reducible exact Br | with_reducible exact Below.refl _ _ | with_reducible refine bal ?_ | with_reducible refine bdr ?_ | (with_reducible refine bst ?_ ?_; rotate_left; (first | exact Nat.le_refl _ | (show _ ≤ _; dsimp only; omega) | (simp <;> omega))))))).cell rfl, (GA.behind (by (repeat (first | with_reducible exact Br | with_reducible exact Below.refl _ _ | with_reducible refine bal ?_ | with_reducible refine bdr ?_ | (with_reducible refine bst ?_ ?_; rotate_left; (first | exact Nat.le_refl _ | (show _ ≤ _; dsimp only; omega) | (simp <;> omega))))))).cell rfl, (GA.behind (by (repeat (first | with_reducible exact Br | with_reducible exact Below.refl _ _ | with_reducible refine bal ?_ | with_reducible refine bdr ?_ | (with_reducible refine bst ?_ ?_; rotate_left; (first | exact Nat.le_refl _ | (show _ ≤ _; dsimp only; omega) | (simp <;> omega))))))).cell rfl, (GB.behind (by (repeat (first | with_reducible exact Br | with_reducible exact Below.refl _ _ | with_reducible refine bal ?_ | with_reducible refine bdr ?_ | (with_reducible refine bst ?_ ?_; rotate_left; (first | exact Nat.le_refl _ | (show _ ≤ _; dsimp only; omega) | (simp <;> omega))))))).cell rfl, (GB.behind (by (repeat (first | with_reducible exact Br | with_reducible exact Below.refl _ _ | with_reducible refine bal ?_ | with_reducible refine bdr ?_ | (with_reducible refine bst ?_ ?_; rotate_left; (first | exact Nat.le_refl _ | (show _ ≤ _; dsimp only; omega) | (simp <;> omega))))))).cell rfl, (GB.behind (by (repeat (first | with_reducible exact Br | with_reducible exact Below.refl _ _ | with_reducible refine bal ?_ | with_reducible refine bdr ?_ | (with_reducible refine bst ?_ ?_; rotate_left; (first | exact Nat.le_refl _ | (show _ ≤ _; dsimp only; omega) | (simp <;> omega))))))).cell rfl⟩ | (refine ⟨?_, ?_, ?_, ?_, ?_, ?_⟩ <;> go_keep))
      (first
        | (have _ := zL; go_at_call 16; (with_reducible refine (zmul (z2.behind (by (first | with_reducible exact Br | with_reducible exact bal Br | with_reducible exact bal (bal Br)))) (z1.behind (by (first | with_reducible exact Br | with_reducible exact bal Br | with_reducible exact bal (bal Br)))) (by decide)).mono ?_); rintro e v6 ⟨f1, fa, fl, fc, rfl, zR, -, bb⟩; have Bz : Below v5.heap.size v5 v6 := below_both (by (first | with_reducible exact (Below.refl _ _) | with_reducible exact bal (Below.refl _ _) | with_reducible exact bal (bal (Below.refl _ _)))) bb; replace zL := zL.behind Bz; (try replace F0 := F0.behind Bz); (try replace F1 := F1.behind Bz); replace Br : Below v9.heap.size v9 v6 := below_both (by (first | with_reducible exact Br | with_reducible exact bal Br | with_reducible exact bal (bal Br))) bb; have hs6 := Bz.size; (first | (with_reducible have hh := new2 bb; have G0 := hh.1; have G1 := hh.2; clear hh) | (with_reducible have G0 := new1 bb) | skip); (try (have F0f := F0.f 0; have F0g := F0.f 1; have F0l := F0.lt; have F0m := F0.more (o := .cells #[.bool false, .slice none 0 0] 24); have F0i := F0m.f 0; have F0j := F0m.f 1; have F0p := F0.cell (i := 0) rfl; have F0q := F0.cell (i := 1) rfl; have F0r := F0m.cell (i := 0) rfl; have F0t := F0m.cell (i := 1) rfl)); (try (have F1f := F1.f 0; have F1g := F1.f 1; have F1l := F1.lt; have F1m := F1.more (o := .cells #[.bool false, .slice none 0 0] 24); have F1i := F1m.f 0; have F1j := F1m.f 1; have F1p := F1.cell (i := 0) rfl; have F1q := F1.cell (i := 1) rfl; have F1r := F1m.cell (i := 0) rfl; have F1t := F1m.cell (i := 1) rfl)); (try (have G0f := G0.f 0; have G0g := G0.f 1; have G0l := G0.lt; have G0m := G0.more (o := .cells #[.bool false, .slice none 0 0] 24); have G0i := G0m.f 0; have G0j := G0m.f 1; have G0p := G0.cell (i := 0) rfl; have G0q := G0.cell (i := 1) rfl; have G0r := G0m.cell (i := 0) rfl; have G0t := G0m.cell (i := 1) rfl)); (try (have G1f := G1.f 0; have G1g := G1.f 1; have G1l := G1.lt; have G1m := G1.more (o := .cells #[.bool false, .slice none 0 0] 24); have G1i := G1m.f 0; have G1j := G1m.f 1; have G1p := G1.cell (i := 0) rfl; have G1q := G1.cell (i := 1) rfl; have G1r := G1m.cell (i := 0) rfl; have G1t := G1m.cell (i := 1) rfl)); have hm := (Cs.new v6 #[.bool false, .slice none 0 0] 24).more (o := .cells #[.bool false, .slice none 0 0] 24); have hmf := hm.f 0; have hmg := hm.f 1; have hmp := hm.cell (i := 0) rfl; have hmq := hm.cell (i := 1) rfl; (try have ne0100 : v9.heap.size ≠ v5.heap.size := (by omega)); (try have en0100 := Ne.symm ne0100); (try have ne0101 : v9.heap.size ≠ v5.heap.size + 1 := (by omega)); (try have en0101 := Ne.symm ne0101); (try have ne0110 : v9.heap.size + 1 ≠ v5.heap.size := (by omega)); (try have en0110 := Ne.symm ne0110); (try have ne0111 : v9.heap.size + 1 ≠ v5.heap.size + 1 := (by omega)); (try have en0111 := Ne.symm ne0111); (try have ne0200 : v9.heap.size ≠ v6.heap.size := (by omega)); (try have en0200 := Ne.symm ne0200); (try have ne0201 : v9.heap.size ≠ v6.heap.size + 1 := (by omega)); (try have en0201 := Ne.symm ne0201); (try have ne0210 : v9.heap.size + 1 ≠ v6.heap.size := (by omega)); (try have en0210 := Ne.symm ne0210); (try have ne0211 : v9.heap.size + 1 ≠ v6.heap.size + 1 := (by omega)); (try have en0211 := Ne.symm ne0211); (try have ne1200 : v5.heap.size ≠ v6.heap.size := (by omega)); (try have en1200 := Ne.symm ne1200); (try have ne1201 : v5.heap.size ≠ v6.heap.size + 1 := (by omega)); (try have en1201 := Ne.symm ne1201); (try have ne1210 : v5.heap.size + 1 ≠ v6.heap.size := (by omega)); (try have en1210 := Ne.symm ne1210); (try have ne1211 : v5.heap.size + 1 ≠ v6.heap.size + 1 := (by omega)); (try have en1211 := Ne.symm ne1211); clear bb Bz)
        | (go_at_call 16; (with_reducible refine (zmul (z0.behind (by (first | with_reducible exact (Below.refl _ _).drew | with_reducible exact (bal (Below.refl _ _)).drew | with_reducible exact (bal (bal (Below.refl _ _))).drew | with_reducible exact Below.refl _ _ | with_reducible exact bal (Below.refl _ _) | with_reducible exact bal (bal (Below.refl _ _))))) (z3.behind (by (first | with_reducible exact (Below.refl _ _).drew | with_reducible exact (bal (Below.refl _ _)).drew | with_reducible exact (bal (bal (Below.refl _ _))).drew | with_reducible exact Below.refl _ _ | with_reducible exact bal (Below.refl _ _) | with_reducible exact bal (bal (Below.refl _ _))))) (by decide)).mono ?_); rintro e v5 ⟨e1, ea, el, ec, rfl, zL, -, bb⟩; replace Br : Below v9.heap.size v9 v5 := below_both (by (first | with_reducible exact (Below.refl _ _).drew | with_reducible exact (bal (Below.refl _ _)).drew | with_reducible exact (bal (bal (Below.refl _ _))).drew | with_reducible exact Below.refl _ _ | with_reducible exact bal (Below.refl _ _) | with_reducible exact bal (bal (Below.refl _ _)))) bb; have hs5 := Br.size; (first | (with_reducible have hh := new2d bb; have F0 := hh.1; have F1 := hh.2; clear hh) | (with_reducible have F0 := new1d bb) | (with_reducible have hh := new2 bb; have F0 := hh.1; have F1 := hh.2; clear hh) | (with_reducible have F0 := new1 bb) | skip); (try have F0l := F0.lt); (try have F1l := F1.lt); clear bb))
    all_goals
      go_wp2_with fail
      go_meet
      first | with_reducible exact xy_pp F0 F1 zL zR Br (by omega) (by omega) (by omega) | with_reducible exact xy_pp F0 G0 zL zR Br (by omega) (by omega) (by omega) | with_reducible exact xy_pp F0 G1 zL zR Br (by omega) (by omega) (by omega) | with_reducible exact xy_pp F1 F0 zL zR Br (by omega) (by omega) (by omega) | with_reducible exact xy_pp F1 G0 zL zR Br (by omega) (by omega) (by omega) | with_reducible exact xy_pp F1 G1 zL zR Br (by omega) (by omega) (by omega) | with_reducible exact xy_pp G0 F0 zL zR Br (by omega) (by omega) (by omega) | with_reducible exact xy_pp G0 F1 zL zR Br (by omega) (by omega) (by omega) | with_reducible exact xy_pp G0 G1 zL zR Br (by omega) (by omega) (by omega) | with_reducible exact xy_pp G1 F0 zL zR Br (by omega) (by omega) (by omega) | with_reducible exact xy_pp G1 F1 zL zR Br (by omega) (by omega) (by omega) | with_reducible exact xy_pp G1 G0 zL zR Br (by omega) (by omega) (by omega) | with_reducible exact xy_pn F0 zL zR Br (by omega) | with_reducible exact xy_pn F1 zL zR Br (by omega) | with_reducible exact xy_pn G0 zL zR Br (by omega) | with_reducible exact xy_pn G1 zL zR Br (by omega) | with_reducible exact xy_np F0 zL zR Br (by omega) | with_reducible exact xy_np F1 zL zR Br (by omega) | with_reducible exact xy_np G0 zL zR Br (by omega) | with_reducible exact xy_np G1 zL zR Br (by omega) | with_reducible exact xy_nn zL zR Br | with_reducible exact xy_nn' zL zR Br
  case rest =>
    obtain ⟨gx, gy, e1, ea, el, ec, f1, fa, fl, fc, rfl, rfl, GX, GY, zX, zY, hxy, hgx, hgy, BY⟩ := hcut
    have c2 := (GA.behind BY).cell (i := 2) rfl
    have d2 := (GB.behind BY).cell (i := 2) rfl
    go_wp2_with fail
    clear c2 d2
    refine (mul_num (hD.behind (B.trans (BY.mono B.size))) (hD'.behind (B.trans (BY.mono B.size))) (by decide)).mono ?_
    rintro e u1 ⟨vv, rfl, hM, -, bb⟩
    obtain ⟨va, vl, vc, rfl⟩ := hM.slice
    replace BY := BY.trans (bb.mono BY.size)
    replace GX := GX.behind bb
    replace GY := GY.behind bb
    replace zX := zX.behind bb
    replace zY := zY.behind bb
    clear bb
    have HCC : Hid (∀ W : World, Wv W e1 ea el ec (x * D') 12 → Wv W f1 fa fl fc (x' * D) 12 → Calls Tryd.prog 18 #[.agg #[.bool e1, .slice ea el ec], .agg #[.bool f1, .slice fa fl fc]] W fun e W' => e = .returned (.int .i64 cq) ∧ Below W.heap.size W W') := Lib.hid fun W h1 h2 => by
      have := zcmp h1 h2 (by decide) (by decide)
      rwa [HCQ.out] at this
    have hcc : (cq != cq) = false := by simp
    have hc1 : (cq == cq) = true := by simp
    go_wp2_with fail
    have bd := (Below.refl u1.heap.size u1).drew
    replace BY := BY.trans (bd.mono BY.size)
    replace GX := GX.behind bd
    replace GY := GY.behind bd
    replace zX := zX.behind bd
    replace zY := zY.behind bd
    replace hM := (hM.behind bd).more (show 6 + 6 ≤ 13 by decide)
    clear bd
    go_region_held3 (fun w' => w'.cell? ⟨gx, 0, none⟩ = some (.bool e1) ∧ w'.cell? ⟨gx, 1, none⟩ = some (.slice ea el ec) ∧ w'.cell? ⟨gy, 0, none⟩ = some (.bool f1) ∧ w'.cell? ⟨gy, 1, none⟩ = some (.slice fa fl fc) ∧ w'.cell? ⟨g5, 0, none⟩ = some (.bool p5) ∧ w'.cell? ⟨g5, 1, none⟩ = some (.slice a5 m5 k5) ∧ w'.cell? ⟨g5, 2, none⟩ = some (.slice b5 n5 l5) ∧ w'.cell? ⟨g7, 0, none⟩ = some (.bool p7) ∧ w'.cell? ⟨g7, 1, none⟩ = some (.slice a7 m7 k7) ∧ w'.cell? ⟨g7, 2, none⟩ = some (.slice b7 n7 l7) ∧ w'.cell? ⟨g9, 0, none⟩ = some (.bool p9) ∧ w'.cell? ⟨g9, 1, none⟩ = some (.slice a9 m9 k9) ∧ w'.cell? ⟨g9, 2, none⟩ = some (.slice b9 n9 l9) ∧ w'.cell? ⟨w.heap.size, 0, none⟩ = some (.bool s) ∧ w'.cell? ⟨w.heap.size, 1, none⟩ = some (.slice a m c) ∧ w'.cell? ⟨w.heap.size + 1, 0, none⟩ = some (.bool s') ∧ w'.cell? ⟨w.heap.size + 1, 1, none⟩ = some (.slice a' m' c')) (first | with_reducible exact ⟨GX.cell rfl, GX.cell rfl, GY.cell rfl, GY.cell rfl, (G5.behind BY).cell rfl, (G5.behind BY).cell rfl, (G5.behind BY).cell rfl, (G7.behind BY).cell rfl, (G7.behind BY).cell rfl, (G7.behind BY).cell rfl, (G9.behind BY).cell rfl, (G9.behind BY).cell rfl, (G9.behind BY).cell rfl, (GA.behind BY).cell rfl, (GA.behind BY).cell rfl, (GB.behind BY).cell rfl, (GB.behind BY).cell rfl⟩ | exact ⟨GX.cell rfl, GX.cell rfl, GY.cell rfl, GY.cell rfl, (G5.behind BY).cell rfl, (G5.behind BY).cell rfl, (G5.behind BY).cell rfl, (G7.behind BY).cell rfl, (G7.behind BY).cell rfl, (G7.behind BY).cell rfl, (G9.behind BY).cell rfl, (G9.behind BY).cell rfl, (G9.behind BY).cell rfl, (GA.behind BY).cell rfl, (GA.behind BY).cell rfl, (GB.behind BY).cell rfl, (GB.behind BY).cell rfl⟩ | (refine ⟨?_, ?_, ?_, ?_, ?_, ?_, ?_, ?_, ?_, ?_, ?_, ?_, ?_, ?_, ?_, ?_, ?_⟩ <;> go_keep))
      (first
        | (go_at_call 19; (with_reducible refine (lis5 (nf5.behind BY) (nd5.behind BY) zS hM Z5.out E5.out (by decide) (hT.behind (B.trans (BY.mono B.size))) V5 Q5).mono ?_); rintro e x5 ⟨rfl, bb⟩; replace BY := BY.trans (bb.mono BY.size); replace GX := GX.behind bb; replace GY := GY.behind bb; replace zX := zX.behind bb; replace zY := zY.behind bb; replace hM := hM.behind bb; clear bb)
        | (go_at_call 19; (with_reducible refine (lis5 (nf7.behind BY) (nd7.behind BY) zD hM Z7.out E7.out (by decide) (hT.behind (B.trans (BY.mono B.size))) V7 Q7).mono ?_); rintro e x7 ⟨rfl, bb⟩; replace BY := BY.trans (bb.mono BY.size); replace GX := GX.behind bb; replace GY := GY.behind bb; replace zX := zX.behind bb; replace zY := zY.behind bb; replace hM := hM.behind bb; clear bb)
        | (go_at_call 19; (with_reducible refine (lis5 (nf9.behind BY) (nd9.behind BY) zP hM Z9.out E9.out (by decide) (hT.behind (B.trans (BY.mono B.size))) V9 Q9).mono ?_); rintro e x9 ⟨rfl, bb⟩; replace BY := BY.trans (bb.mono BY.size); replace GX := GX.behind bb; replace GY := GY.behind bb; replace zX := zX.behind bb; replace zY := zY.behind bb; replace hM := hM.behind bb; clear bb)
        | (go_at_call 18; (with_reducible refine (HCC.out _ zX zY).mono ?_); rintro e x1 ⟨rfl, bb⟩; replace BY := BY.trans (bb.mono BY.size); replace GX := GX.behind bb; replace GY := GY.behind bb; replace zX := zX.behind bb; replace zY := zY.behind bb; replace hM := hM.behind bb; clear bb)
        | (go_at_call 20; (with_reducible refine (zadd zX zY (by decide) (by decide)).mono ?_); rintro e x2 ⟨h2, ha2, hl2, hc2, rfl, zS, -, bb⟩; replace BY := BY.trans (bb.mono BY.size); replace GX := GX.behind bb; replace GY := GY.behind bb; replace zX := zX.behind bb; replace zY := zY.behind bb; replace hM := hM.behind bb; replace zS := zS.more (show max 12 12 + 1 ≤ 13 by decide); clear bb)
        | (go_at_call 21; (with_reducible refine (zsub zX zY (by decide) (by decide)).mono ?_); rintro e x3 ⟨h3, ha3, hl3, hc3, rfl, zD, -, bb⟩; replace BY := BY.trans (bb.mono BY.size); replace GX := GX.behind bb; replace GY := GY.behind bb; replace zX := zX.behind bb; replace zY := zY.behind bb; replace hM := hM.behind bb; replace zD := zD.more (show max 12 12 + 1 ≤ 13 by decide); clear bb)
        | (go_at_call 16; (with_reducible refine (zmul (zA.behind (B.trans (BY.mono B.size))) (zA'.behind (B.trans (BY.mono B.size))) (by decide)).mono ?_); rintro e x4 ⟨h4, ha4, hl4, hc4, rfl, zP, -, bb⟩; replace BY := BY.trans (bb.mono BY.size); replace GX := GX.behind bb; replace GY := GY.behind bb; replace zX := zX.behind bb; replace zY := zY.behind bb; replace hM := hM.behind bb; replace zP := zP.more (show 6 + 6 ≤ 13 by decide); clear bb))
    have c0 := (GB.behind BY).cell (i := 0) rfl
    have c1 := (GB.behind BY).cell (i := 1) rfl
    go_wp2_with fail
    clear c0 c1 zS zD zP
    rcases Int.lt_trichotomy x' 0 with hx | hx | hx
    · have HX := Lib.hid hx
      obtain ⟨rfl, k1, k2, k3, k4⟩ := hn11.out (by omega)
      have k1 := Lib.hid k1
      have k2 := Lib.hid k2
      have k3 := Lib.hid k3
      have k4 := Lib.hid k4
      refine (zsign_is (zA'.behind (B.trans (BY.mono B.size))) (by decide) (cmpZ_lt0 hx)).mono ?_
      rintro e t1 ⟨rfl, bb⟩
      clear hx
      replace BY := BY.trans (bb.mono BY.size)
      replace GX := GX.behind bb
      replace GY := GY.behind bb
      replace zX := zX.behind bb
      replace zY := zY.behind bb
      clear bb
      have y0 := GY.cell (i := 0) rfl
      have y1 := GY.cell (i := 1) rfl
      go_wp2_with fail
      refine (zsign_is zY (by decide) (cmpZ_lt0 (show x' * (D : Int) < 0 from Int.mul_neg_of_neg_of_pos HX.out (by have := H0.out; omega)))).mono ?_
      rintro e t2 ⟨rfl, bb⟩
      clear y0 y1
      replace BY := BY.trans (bb.mono BY.size)
      replace GX := GX.behind bb
      replace GY := GY.behind bb
      replace zX := zX.behind bb
      replace zY := zY.behind bb
      clear bb
      have y0 := GY.cell (i := 0) rfl
      have y1 := GY.cell (i := 1) rfl
      have x0 := GX.cell (i := 0) rfl
      have x1 := GX.cell (i := 1) rfl
      go_wp2_with fail
      have bb := (Below.refl t2.heap.size t2).drew
      clear x0 x1 y0 y1
      replace BY := BY.trans (bb.mono BY.size)
      replace GX := GX.behind bb
      replace GY := GY.behind bb
      replace zX := zX.behind bb
      replace zY := zY.behind bb
      clear bb
      have x0 := GX.cell (i := 0) rfl
      have x1 := GX.cell (i := 1) rfl
      have y0 := GY.cell (i := 0) rfl
      have y1 := GY.cell (i := 1) rfl
      go_region_with (first
        | (have _ := zM; go_at_call 23; (with_reducible refine (zneg zY (by decide)).mono ?_); rintro e t4 ⟨h6, ha6, hl6, hc6, rfl, zN, -, bb⟩; replace BY := BY.trans (bb.mono BY.size); replace GX := GX.behind bb; replace GY := GY.behind bb; replace zX := zX.behind bb; replace zY := zY.behind bb; replace zM := zM.behind bb; have x0 := GX.cell (i := 0) rfl; have x1 := GX.cell (i := 1) rfl; have y0 := GY.cell (i := 0) rfl; have y1 := GY.cell (i := 1) rfl; have f0 := GX.f 0; have f1 := GX.f 1; have f2 := GY.f 0; have f3 := GY.f 1; clear bb)
        | (go_at_call 23; (with_reducible refine (zneg zX (by decide)).mono ?_); rintro e t3 ⟨h5, ha5, hl5, hc5, rfl, zM, -, bb⟩; replace BY := BY.trans (bb.mono BY.size); replace GX := GX.behind bb; replace GY := GY.behind bb; replace zX := zX.behind bb; replace zY := zY.behind bb; have x0 := GX.cell (i := 0) rfl; have x1 := GX.cell (i := 1) rfl; have y0 := GY.cell (i := 0) rfl; have y1 := GY.cell (i := 1) rfl; clear bb))
      all_goals
        obtain ⟨IX, IY, jX, jY, BYn⟩ := xy_set GX GY zM zN BY hxy hgx hgy _ rfl
        clear x0 x1 y0 y1 f0 f1 f2 f3 GX GY zX zY zM zN BY
        have x0 := IX.cell (i := 0) rfl
        have x1 := IX.cell (i := 1) rfl
        have y1 := IY.cell (i := 1) rfl
        have g0 := (G11.behind BYn).cell (i := 0) rfl
        have g1 := (G11.behind BYn).cell (i := 1) rfl
        have g2 := (G11.behind BYn).cell (i := 2) rfl
        go_wp2_with fail
        refine (lis5 (nf11.behind BYn) (nd11.behind BYn) (jX.more (show 12 ≤ 13 by decide)) (jY.numA.more (show 12 ≤ 13 by decide)) k1.out k2.out (by decide) (hT.behind (B.trans (BYn.mono B.size))) k4 (Lib.hid (sg_neg HX.out k3.out))).mono ?_
        rintro e t5 ⟨rfl, bb⟩
        replace BYn := BYn.trans (bb.mono BYn.size)
        go_wp2
        go_ret
        exact ⟨rfl, B.trans (BYn.mono B.size)⟩
    · have HX := Lib.hid hx
      obtain ⟨rfl, rfl, rfl⟩ := hz11.out hx
      refine (zsign_is (zA'.behind (B.trans (BY.mono B.size))) (by decide) (cmpZ_zero0 hx)).mono ?_
      rintro e t1 ⟨rfl, bb⟩
      clear hx
      replace BY := BY.trans (bb.mono BY.size)
      have g0 := (G11.behind BY).cell (i := 0) rfl
      have g1 := (G11.behind BY).cell (i := 1) rfl
      have g2 := (G11.behind BY).cell (i := 2) rfl
      go_wp2_with fail
      refine (lzero_new (nf11.behind BY) (nd11.behind BY)).mono ?_
      rintro e t2 ⟨rfl, bb⟩
      replace BY := BY.trans (bb.mono BY.size)
      go_wp2
      go_ret
      exact ⟨rfl, (B.trans (BY.mono B.size))⟩
    · have HX := Lib.hid hx
      obtain ⟨rfl, k1, k2, k3, k4⟩ := hn11.out (by omega)
      have k1 := Lib.hid k1
      have k2 := Lib.hid k2
      have k3 := Lib.hid k3
      have k4 := Lib.hid k4
      refine (zsign_is (zA'.behind (B.trans (BY.mono B.size))) (by decide) (cmpZ_gt0 hx)).mono ?_
      rintro e t1 ⟨rfl, bb⟩
      clear hx
      replace BY := BY.trans (bb.mono BY.size)
      replace GX := GX.behind bb
      replace GY := GY.behind bb
      replace zX := zX.behind bb
      replace zY := zY.behind bb
      clear bb
      have y0 := GY.cell (i := 0) rfl
      have y1 := GY.cell (i := 1) rfl
      go_wp2_with fail
      refine (zsign_is zY (by decide) (cmpZ_gt0 (show 0 < x' * (D : Int) from Int.mul_pos HX.out (by have := H0.out; omega)))).mono ?_
      rintro e t2 ⟨rfl, bb⟩
      clear y0 y1
      replace BY := BY.trans (bb.mono BY.size)
      replace GX := GX.behind bb
      replace GY := GY.behind bb
      replace zX := zX.behind bb
      replace zY := zY.behind bb
      clear bb
      have y0 := GY.cell (i := 0) rfl
      have y1 := GY.cell (i := 1) rfl
      have x0 := GX.cell (i := 0) rfl
      have x1 := GX.cell (i := 1) rfl
      have g0 := (G11.behind BY).cell (i := 0) rfl
      have g1 := (G11.behind BY).cell (i := 1) rfl
      have g2 := (G11.behind BY).cell (i := 2) rfl
      go_wp2_with fail
      refine (lis5 (nf11.behind BY) (nd11.behind BY) (zX.more (show 12 ≤ 13 by decide)) (zY.numA.more (show 12 ≤ 13 by decide)) k1.out k2.out (by decide) (hT.behind (B.trans (BY.mono B.size))) k4 (Lib.hid (sg_pos HX.out k3.out))).mono ?_
      rintro e t3 ⟨rfl, bb⟩
      replace BY := BY.trans (bb.mono BY.size)
      go_wp2
      go_ret
      exact ⟨rfl, (B.trans (BY.mono B.size))⟩
theorem tells5_walk {s s' : Bool} {a a' b b' : Option Addr} {m c m' c' n k n' k' D D' i : Nat} {x x' : Int} {w : World} (zA : Wv w s a m c x i) (hD : Num w (.slice b n k) D i) (zA' : Wv w s' a' m' c' x' i) (hD' : Num w (.slice b' n' k') D' i) (hT : TabOk w) :
    Calls Tryd.prog 3 #[.agg #[.bool s, .slice a m c, .slice b n k], .agg #[.bool s', .slice a' m' c', .slice b' n' k']] w fun e W' => e = .returned (.bool true) ∧ Below w.heap.size w W' := by
  cases hs : (sm m n && sm m' n')
  · exact tells5_big zA hD zA' hD' hT (Lib.hid hs)
  · by_cases h0 : D = 0
    · exact tells5_no0 zA hD zA' hD' hT (Lib.hid hs) (Lib.hid h0)
    · by_cases h1 : D' = 0
      · exact tells5_no1 zA hD zA' hD' hT (Lib.hid hs) (Lib.hid h0) (Lib.hid h1)
      · exact tells5_yes zA hD zA' hD' hT (Lib.hid hs) (Lib.hid h0) (Lib.hid h1)
end Go.Proofs.YtfbnpdlkbabmfaaDoor
