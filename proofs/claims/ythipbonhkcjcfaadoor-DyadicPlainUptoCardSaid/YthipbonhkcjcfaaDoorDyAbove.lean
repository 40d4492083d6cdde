/- dyadic's Above: the least number of few bits that is not less. -/
import Derived.Test.YthipbonhkcjcfaaDoorDyLevel
namespace Go.Proofs.YthipbonhkcjcfaaDoor
open Go.RowKit Go.Shelf
attribute [local go_sem ↓] Go.wp_at_zero Go.wp_at_succ

theorem nbits_num {w : World} {v : Value} {M i : Nat} (h : Num w v M i) : nbits M ≤ 64 * i := nbits_le (by have h1 := h.lt; rw [show 18446744073709551616 = 2 ^ 64 from rfl, ← Nat.pow_mul] at h1; exact h1)
theorem New.shr {n : Nat} {w W : World} {v v' : Value} {M g i : Nat} (nt : New n W v (digs 18446744073709551616 (M / 2 ^ g))) (hM : Num w v' M i) : Num W v (M / 2 ^ g) i := nt.num (Nat.lt_of_le_of_lt (Nat.div_le_self _ _) hM.lt)
def upN (s : Bool) (M v : Nat) : Nat := if s = true ∨ v ≤ tz M then M / 2 ^ v else M / 2 ^ v + 1
set_option maxRecDepth 100000 in
set_option maxHeartbeats 2000000 in
theorem dabove_few {s : Bool} {a : Option Addr} {m cap M i : Nat} {E bits : Int} {w : World} (hA : Num w (.slice a m cap) M i) (hT : TabOk w) (hb1 : -9223372036854775808 ≤ bits) (hb2 : bits < 9223372036854775808) (hv : (nbits M : Int) ≤ max bits 1) :
    Calls Tryd.prog 25 #[.agg #[.bool s, .slice a m cap, .int .i64 E], .int .i64 bits] w (DP w (resD (mayB m E) (tld s M E)) (resE (mayB m E) (tld s M E))) := by
  have hb := dbox2 w #[.bool s, .slice a m cap, .int .i64 E] #[.bool false, .slice none 0 0, .int .i64 0] 24 24
  have hbs := fun W => dbox1 W #[.bool s, .slice a m cap, .int .i64 E] 24
  by_cases hm : mayB m E = true
  · have hr : resD (mayB m E) (tld s M E) = outD (tld s M E) ∧ resE (mayB m E) (tld s M E) = outE (tld s M E) := by rw [hm]; exact ⟨rfl, rfl⟩
    rw [hr.1, hr.2]
    have hm' := hm
    rw [mayB_iff] at hm'
    obtain ⟨e1, e2, e3⟩ := hm'
    have hA := num_may hA e3
    have HM := Lib.hid hm
    have hnb : nbits M ≤ 65536 := nbits_num hA
    clear hm hr
    generalize hB1 : max bits 1 = B1 at hv
    have hB2 : 1 ≤ B1 ∧ B1 < 9223372036854775808 := by omega
    obtain ⟨hB2, hB3⟩ := hB2
    have hw : IntKind.i64.wrap ((nbits M : Int) - B1) = (nbits M : Int) - B1 := IntWalk.i64_in _ (by omega)
    have hle : (nbits M : Int) - B1 ≤ 0 := by omega
    have hd : decide ((nbits M : Int) - B1 ≤ 0) = true := decide_eq_true hle
    go_enter Tryd.func25, Tryd.ntmps25
    go_wp2_with fail
    obtain ⟨hB, G, R, hsz⟩ := hb _ rfl
    generalize (((w.alloc (.cells #[.bool s, .slice a m cap, .int .i64 E] 24)).alloc (.cells #[.bool false, .slice none 0 0, .int .i64 0] 24))) = W0 at hB G R hsz ⊢
    clear hb
    have c0 := G.cell (i := 0) rfl
    have c1 := G.cell (i := 1) rfl
    have c2 := G.cell (i := 2) rfl
    go_wp2_with fail
    obtain ⟨b1, S, z1⟩ := hbs W0 _ rfl
    generalize (W0.alloc (.cells #[.bool s, .slice a m cap, .int .i64 E] 24)) = W1 at b1 S z1 ⊢
    rw [hsz] at S z1
    refine (checkAll_one_ok _ _ _ _ _ _ _ S HM.out).mono ?_
    rintro e w2 ⟨rfl, b2⟩
    have G := (G.behind b1).behind b2
    have R := (R.behind b1).behind b2
    have B2 := below_both (below_both hB b1) b2
    have hA := hA.behind B2
    have hT := hT.behind B2
    have z2 := b2.size
    clear c0 c1 c2 S hbs
    have c0 := G.cell (i := 0) rfl
    have c1 := G.cell (i := 1) rfl
    have c2 := G.cell (i := 2) rfl
    go_wp2_with fail
    refine (bits_num hA (by omega)).mono ?_
    rintro e w3 ⟨rfl, b3⟩
    have hA := hA.behind b3
    have hT := hT.behind b3
    have G := G.behind b3
    have R := R.behind b3
    have B3 := below_both B2 b3
    have z3 := b3.size
    clear c0 c1 c2
    generalize (nbits M : Int) - B1 = ov at hw hle hd
    have c0 := G.cell (i := 0) rfl
    have c1 := G.cell (i := 1) rfl
    have c2 := G.cell (i := 2) rfl
    go_wp2_with fail
    refine (dtold (s := s) hA (by omega) hT (by omega) (by omega)).mono ?_
    rintro e w9 ⟨ta, tm, tc, ts, tn, tx, tq, rfl, nt, b9, hR, hQ⟩
    have R := R.behind b9
    have B9 := below_both B3 b9
    have HR := Lib.hid hR
    have HQ := Lib.hid hQ
    clear hR hQ c0 c1 c2 G
    have r0 := R.cell (i := 0) rfl
    have r1 := R.cell (i := 1) rfl
    have r2 := R.cell (i := 2) rfl
    have f0 := R.f 0
    have f1 := R.f 1
    have f2 := R.f 2
    go_wp2
    exact bodyPost_ret (v := .tuple #[.agg #[.bool ts, .slice ta tm tc, .int .i64 tx], .int .i64 tq]) (by simp [results, Tryd.results25, go_sem, r0, r1, r2]) rfl
      (dend B9 (by omega) (by omega) nt HR.out HQ.out)
  · have hm : mayB m E = false := by simpa using hm
    have hr : resD (mayB m E) (tld s M E) = ⟨false, 0, 0⟩ ∧ resE (mayB m E) (tld s M E) = 9 := by rw [hm]; exact ⟨rfl, rfl⟩
    rw [hr.1, hr.2]
    have HM := Lib.hid hm
    clear hm hr
    go_enter Tryd.func25, Tryd.ntmps25
    go_wp2_with fail
    obtain ⟨hB, G, R, hsz⟩ := hb _ rfl
    generalize (((w.alloc (.cells #[.bool s, .slice a m cap, .int .i64 E] 24)).alloc (.cells #[.bool false, .slice none 0 0, .int .i64 0] 24))) = W0 at hB G R hsz ⊢
    clear hb
    have c0 := G.cell (i := 0) rfl
    have c1 := G.cell (i := 1) rfl
    have c2 := G.cell (i := 2) rfl
    go_wp2_with fail
    obtain ⟨b1, S, z1⟩ := hbs W0 _ rfl
    generalize (W0.alloc (.cells #[.bool s, .slice a m cap, .int .i64 E] 24)) = W1 at b1 S z1 ⊢
    rw [hsz] at S z1
    refine (checkAll_one_no _ _ _ _ _ _ _ S HM.out).mono ?_
    rintro e w2 ⟨rfl, b2⟩
    have G := (G.behind b1).behind b2
    have R := (R.behind b1).behind b2
    have B2 := below_both (below_both hB b1) b2
    have hA := hA.behind B2
    have hT := hT.behind B2
    have z2 := b2.size
    clear c0 c1 c2 S hbs
    have r0 := R.cell (i := 0) rfl
    have r1 := R.cell (i := 1) rfl
    have r2 := R.cell (i := 2) rfl
    have f0 := R.f 0
    have f1 := R.f 1
    have f2 := R.f 2
    clear G
    go_wp2
    exact bodyPost_ret (v := .tuple #[.agg #[.bool false, .slice none 0 0, .int .i64 0], .int .i64 9]) (by simp [results, Tryd.results25, go_sem, r0, r1, r2]) rfl
      (dnil B2 (by omega) (by omega) rfl rfl)
set_option maxRecDepth 100000 in
set_option maxHeartbeats 2000000 in
theorem dabove_below {a : Option Addr} {m cap M i : Nat} {E bits : Int} {v : Nat} {w : World} (hA : Num w (.slice a m cap) M i) (hT : TabOk w) (hb1 : -9223372036854775808 ≤ bits) (hb2 : bits < 9223372036854775808) (hv : (nbits M : Int) = max bits 1 + v) (hv0 : 0 < v) :
    Calls Tryd.prog 25 #[.agg #[.bool true, .slice a m cap, .int .i64 E], .int .i64 bits] w (DP w (resD (mayB m E) (tld true (upN true M v) (E + v))) (resE (mayB m E) (tld true (upN true M v) (E + v)))) := by
  have hb := dbox2 w #[.bool true, .slice a m cap, .int .i64 E] #[.bool false, .slice none 0 0, .int .i64 0] 24 24
  have hbs := fun W => dbox1 W #[.bool true, .slice a m cap, .int .i64 E] 24
  by_cases hm : mayB m E = true
  · have hr : resD (mayB m E) (tld true (upN true M v) (E + v)) = outD (tld true (upN true M v) (E + v)) ∧ resE (mayB m E) (tld true (upN true M v) (E + v)) = outE (tld true (upN true M v) (E + v)) := by rw [hm]; exact ⟨rfl, rfl⟩
    rw [hr.1, hr.2]
    have hm' := hm
    rw [mayB_iff] at hm'
    obtain ⟨e1, e2, e3⟩ := hm'
    have hA := num_may hA e3
    have HM := Lib.hid hm
    have hnb : nbits M ≤ 65536 := nbits_num hA
    clear hm hr
    have hvb : v ≤ 65536 := by omega
    have hv2 : (nbits M : Int) - max bits 1 = v := by omega
    clear hv
    generalize hB1 : max bits 1 = B1 at hv2
    have hw : IntKind.i64.wrap ((nbits M : Int) - B1) = v := by rw [hv2]; exact IntWalk.i64_in _ (by omega)
    have hB2 : 1 ≤ B1 ∧ B1 < 9223372036854775808 := by omega
    obtain ⟨hB2, hB3⟩ := hB2
    have hd : decide ((v : Int) ≤ 0) = false := decide_eq_false (by omega)
    have hwE : IntKind.i64.wrap (E + v) = E + v := IntWalk.i64_in _ (by omega)
    go_enter Tryd.func25, Tryd.ntmps25
    go_wp2_with fail
    obtain ⟨hB, G, R, hsz⟩ := hb _ rfl
    generalize (((w.alloc (.cells #[.bool true, .slice a m cap, .int .i64 E] 24)).alloc (.cells #[.bool false, .slice none 0 0, .int .i64 0] 24))) = W0 at hB G R hsz ⊢
    clear hb
    have c0 := G.cell (i := 0) rfl
    have c1 := G.cell (i := 1) rfl
    have c2 := G.cell (i := 2) rfl
    go_wp2_with fail
    obtain ⟨b1, S, z1⟩ := hbs W0 _ rfl
    generalize (W0.alloc (.cells #[.bool true, .slice a m cap, .int .i64 E] 24)) = W1 at b1 S z1 ⊢
    rw [hsz] at S z1
    refine (checkAll_one_ok _ _ _ _ _ _ _ S HM.out).mono ?_
    rintro e w2 ⟨rfl, b2⟩
    have G := (G.behind b1).behind b2
    have R := (R.behind b1).behind b2
    have B2 := below_both (below_both hB b1) b2
    have hA := hA.behind B2
    have hT := hT.behind B2
    have z2 := b2.size
    clear c0 c1 c2 S hbs
    have c0 := G.cell (i := 0) rfl
    have c1 := G.cell (i := 1) rfl
    have c2 := G.cell (i := 2) rfl
    go_wp2_with fail
    refine (bits_num hA (by omega)).mono ?_
    rintro e w3 ⟨rfl, b3⟩
    have hA := hA.behind b3
    have hT := hT.behind b3
    have G := G.behind b3
    have R := R.behind b3
    have B3 := below_both B2 b3
    have z3 := b3.size
    clear c0 c1 c2
    have c0 := G.cell (i := 0) rfl
    have c1 := G.cell (i := 1) rfl
    have c2 := G.cell (i := 2) rfl
    go_wp2_with fail
    refine (shr_num hA (by omega) (m := v) (by omega)).mono ?_
    rintro e w4 ⟨kv, rfl, nk, b4⟩
    have nkn := nk.shr hA
    obtain ⟨ka, km, kc, rfl⟩ := nkn.slice
    have hA := hA.behind b4
    have hT := hT.behind b4
    have G := G.behind b4
    have R := R.behind b4
    have B4 := below_both B3 b4
    have z4 := b4.size
    clear c0 c1 c2 nk
    have c0 := G.cell (i := 0) rfl
    have c1 := G.cell (i := 1) rfl
    have c2 := G.cell (i := 2) rfl
    go_wp2_with fail
    refine (dtold (s := true) nkn (by omega) hT (by omega) (by omega)).mono ?_
    rintro e w9 ⟨ta, tm, tc, ts, tn, tx, tq, rfl, nt, b9, hR, hQ⟩
    have R := R.behind b9
    have B9 := below_both B4 b9
    have HR := Lib.hid hR
    have HQ := Lib.hid hQ
    clear hR hQ c0 c1 c2 G
    have r0 := R.cell (i := 0) rfl
    have r1 := R.cell (i := 1) rfl
    have r2 := R.cell (i := 2) rfl
    have f0 := R.f 0
    have f1 := R.f 1
    have f2 := R.f 2
    go_wp2
    exact bodyPost_ret (v := .tuple #[.agg #[.bool ts, .slice ta tm tc, .int .i64 tx], .int .i64 tq]) (by simp [results, Tryd.results25, go_sem, r0, r1, r2]) rfl
      (dend B9 (by omega) (by omega) nt (by rw [upN, if_pos (.inl rfl)]; exact HR.out) (by rw [upN, if_pos (.inl rfl)]; exact HQ.out))
  · have hm : mayB m E = false := by simpa using hm
    have hr : resD (mayB m E) (tld true (upN true M v) (E + v)) = ⟨false, 0, 0⟩ ∧ resE (mayB m E) (tld true (upN true M v) (E + v)) = 9 := by rw [hm]; exact ⟨rfl, rfl⟩
    rw [hr.1, hr.2]
    have HM := Lib.hid hm
    clear hm hr
    go_enter Tryd.func25, Tryd.ntmps25
    go_wp2_with fail
    obtain ⟨hB, G, R, hsz⟩ := hb _ rfl
    generalize (((w.alloc (.cells #[.bool true, .slice a m cap, .int .i64 E] 24)).alloc (.cells #[.bool false, .slice none 0 0, .int .i64 0] 24))) = W0 at hB G R hsz ⊢
    clear hb
    have c0 := G.cell (i := 0) rfl
    have c1 := G.cell (i := 1) rfl
    have c2 := G.cell (i := 2) rfl
    go_wp2_with fail
    obtain ⟨b1, S, z1⟩ := hbs W0 _ rfl
    generalize (W0.alloc (.cells #[.bool true, .slice a m cap, .int .i64 E] 24)) = W1 at b1 S z1 ⊢
    rw [hsz] at S z1
    refine (checkAll_one_no _ _ _ _ _ _ _ S HM.out).mono ?_
    rintro e w2 ⟨rfl, b2⟩
    have G := (G.behind b1).behind b2
    have R := (R.behind b1).behind b2
    have B2 := below_both (below_both hB b1) b2
    have hA := hA.behind B2
    have hT := hT.behind B2
    have z2 := b2.size
    clear c0 c1 c2 S hbs
    have r0 := R.cell (i := 0) rfl
    have r1 := R.cell (i := 1) rfl
    have r2 := R.cell (i := 2) rfl
    have f0 := R.f 0
    have f1 := R.f 1
    have f2 := R.f 2
    clear G
    go_wp2
    exact bodyPost_ret (v := .tuple #[.agg #[.bool false, .slice none 0 0, .int .i64 0], .int .i64 9]) (by simp [results, Tryd.results25, go_sem, r0, r1, r2]) rfl
      (dnil B2 (by omega) (by omega) rfl rfl)
set_option maxRecDepth 100000 in
set_option maxHeartbeats 2000000 in
theorem dabove_even {a : Option Addr} {m cap M i : Nat} {E bits : Int} {v : Nat} {w : World} (hA : Num w (.slice a m cap) M i) (hT : TabOk w) (hb1 : -9223372036854775808 ≤ bits) (hb2 : bits < 9223372036854775808) (hv : (nbits M : Int) = max bits 1 + v) (hv0 : 0 < v) (hvz : v ≤ tz M) :
    Calls Tryd.prog 25 #[.agg #[.bool false, .slice a m cap, .int .i64 E], .int .i64 bits] w (DP w (resD (mayB m E) (tld false (upN false M v) (E + v))) (resE (mayB m E) (tld false (upN false M v) (E + v)))) := by
  have hb := dbox2 w #[.bool false, .slice a m cap, .int .i64 E] #[.bool false, .slice none 0 0, .int .i64 0] 24 24
  have hbs := fun W => dbox1 W #[.bool false, .slice a m cap, .int .i64 E] 24
  by_cases hm : mayB m E = true
  · have hr : resD (mayB m E) (tld false (upN false M v) (E + v)) = outD (tld false (upN false M v) (E + v)) ∧ resE (mayB m E) (tld false (upN false M v) (E + v)) = outE (tld false (upN false M v) (E + v)) := by rw [hm]; exact ⟨rfl, rfl⟩
    rw [hr.1, hr.2]
    have hm' := hm
    rw [mayB_iff] at hm'
    obtain ⟨e1, e2, e3⟩ := hm'
    have hA := num_may hA e3
    have HM := Lib.hid hm
    have hnb : nbits M ≤ 65536 := nbits_num hA
    clear hm hr
    have hvb : v ≤ 65536 := by omega
    have hv2 : (nbits M : Int) - max bits 1 = v := by omega
    clear hv
    generalize hB1 : max bits 1 = B1 at hv2
    have hw : IntKind.i64.wrap ((nbits M : Int) - B1) = v := by rw [hv2]; exact IntWalk.i64_in _ (by omega)
    have hB2 : 1 ≤ B1 ∧ B1 < 9223372036854775808 := by omega
    obtain ⟨hB2, hB3⟩ := hB2
    have hd : decide ((v : Int) ≤ 0) = false := decide_eq_false (by omega)
    have hwE : IntKind.i64.wrap (E + v) = E + v := IntWalk.i64_in _ (by omega)
    go_enter Tryd.func25, Tryd.ntmps25
    go_wp2_with fail
    obtain ⟨hB, G, R, hsz⟩ := hb _ rfl
    generalize (((w.alloc (.cells #[.bool false, .slice a m cap, .int .i64 E] 24)).alloc (.cells #[.bool false, .slice none 0 0, .int .i64 0] 24))) = W0 at hB G R hsz ⊢
    clear hb
    have c0 := G.cell (i := 0) rfl
    have c1 := G.cell (i := 1) rfl
    have c2 := G.cell (i := 2) rfl
    go_wp2_with fail
    obtain ⟨b1, S, z1⟩ := hbs W0 _ rfl
    generalize (W0.alloc (.cells #[.bool false, .slice a m cap, .int .i64 E] 24)) = W1 at b1 S z1 ⊢
    rw [hsz] at S z1
    refine (checkAll_one_ok _ _ _ _ _ _ _ S HM.out).mono ?_
    rintro e w2 ⟨rfl, b2⟩
    have G := (G.behind b1).behind b2
    have R := (R.behind b1).behind b2
    have B2 := below_both (below_both hB b1) b2
    have hA := hA.behind B2
    have hT := hT.behind B2
    have z2 := b2.size
    clear c0 c1 c2 S hbs
    have c0 := G.cell (i := 0) rfl
    have c1 := G.cell (i := 1) rfl
    have c2 := G.cell (i := 2) rfl
    go_wp2_with fail
    refine (bits_num hA (by omega)).mono ?_
    rintro e w3 ⟨rfl, b3⟩
    have hA := hA.behind b3
    have hT := hT.behind b3
    have G := G.behind b3
    have R := R.behind b3
    have B3 := below_both B2 b3
    have z3 := b3.size
    clear c0 c1 c2
    have c0 := G.cell (i := 0) rfl
    have c1 := G.cell (i := 1) rfl
    have c2 := G.cell (i := 2) rfl
    go_wp2_with fail
    refine (shr_num hA (by omega) (m := v) (by omega)).mono ?_
    rintro e w4 ⟨kv, rfl, nk, b4⟩
    have nkn := nk.shr hA
    obtain ⟨ka, km, kc, rfl⟩ := nkn.slice
    have hA := hA.behind b4
    have hT := hT.behind b4
    have G := G.behind b4
    have R := R.behind b4
    have B4 := below_both B3 b4
    have z4 := b4.size
    clear c0 c1 c2 nk
    have c0 := G.cell (i := 0) rfl
    have c1 := G.cell (i := 1) rfl
    have c2 := G.cell (i := 2) rfl
    go_wp2_with fail
    refine (zeros_num hA (by omega) hT).mono ?_
    rintro e w5 ⟨z, rfl, ⟨hz1, -⟩, b5⟩
    have hA := hA.behind b5
    have nkn := nkn.behind b5
    have hT := hT.behind b5
    have G := G.behind b5
    have R := R.behind b5
    have B5 := below_both B4 b5
    have z5 := b5.size
    have hz := tz_of hz1
    clear c0 c1 c2 hz1
    have hzd : decide ((z : Int) < (v : Int)) = false := decide_eq_false (by omega)
    have hzn : decide (z < v) = false := decide_eq_false (by omega)
    have HZ := Lib.hid (show v ≤ tz M from hvz)
    clear hz hvz
    have c0 := G.cell (i := 0) rfl
    have c1 := G.cell (i := 1) rfl
    have c2 := G.cell (i := 2) rfl
    go_wp2_with fail
    refine (dtold (s := false) nkn (by omega) hT (by omega) (by omega)).mono ?_
    rintro e w9 ⟨ta, tm, tc, ts, tn, tx, tq, rfl, nt, b9, hR, hQ⟩
    have R := R.behind b9
    have B9 := below_both B5 b9
    have HR := Lib.hid hR
    have HQ := Lib.hid hQ
    clear hR hQ c0 c1 c2 G
    have r0 := R.cell (i := 0) rfl
    have r1 := R.cell (i := 1) rfl
    have r2 := R.cell (i := 2) rfl
    have f0 := R.f 0
    have f1 := R.f 1
    have f2 := R.f 2
    go_wp2
    exact bodyPost_ret (v := .tuple #[.agg #[.bool ts, .slice ta tm tc, .int .i64 tx], .int .i64 tq]) (by simp [results, Tryd.results25, go_sem, r0, r1, r2]) rfl
      (dend B9 (by omega) (by omega) nt (by rw [upN, if_pos (.inr HZ.out)]; exact HR.out) (by rw [upN, if_pos (.inr HZ.out)]; exact HQ.out))
  · have hm : mayB m E = false := by simpa using hm
    have hr : resD (mayB m E) (tld false (upN false M v) (E + v)) = ⟨false, 0, 0⟩ ∧ resE (mayB m E) (tld false (upN false M v) (E + v)) = 9 := by rw [hm]; exact ⟨rfl, rfl⟩
    rw [hr.1, hr.2]
    have HM := Lib.hid hm
    clear hm hr
    go_enter Tryd.func25, Tryd.ntmps25
    go_wp2_with fail
    obtain ⟨hB, G, R, hsz⟩ := hb _ rfl
    generalize (((w.alloc (.cells #[.bool false, .slice a m cap, .int .i64 E] 24)).alloc (.cells #[.bool false, .slice none 0 0, .int .i64 0] 24))) = W0 at hB G R hsz ⊢
    clear hb
    have c0 := G.cell (i := 0) rfl
    have c1 := G.cell (i := 1) rfl
    have c2 := G.cell (i := 2) rfl
    go_wp2_with fail
    obtain ⟨b1, S, z1⟩ := hbs W0 _ rfl
    generalize (W0.alloc (.cells #[.bool false, .slice a m cap, .int .i64 E] 24)) = W1 at b1 S z1 ⊢
    rw [hsz] at S z1
    refine (checkAll_one_no _ _ _ _ _ _ _ S HM.out).mono ?_
    rintro e w2 ⟨rfl, b2⟩
    have G := (G.behind b1).behind b2
    have R := (R.behind b1).behind b2
    have B2 := below_both (below_both hB b1) b2
    have hA := hA.behind B2
    have hT := hT.behind B2
    have z2 := b2.size
    clear c0 c1 c2 S hbs
    have r0 := R.cell (i := 0) rfl
    have r1 := R.cell (i := 1) rfl
    have r2 := R.cell (i := 2) rfl
    have f0 := R.f 0
    have f1 := R.f 1
    have f2 := R.f 2
    clear G
    go_wp2
    exact bodyPost_ret (v := .tuple #[.agg #[.bool false, .slice none 0 0, .int .i64 0], .int .i64 9]) (by simp [results, Tryd.results25, go_sem, r0, r1, r2]) rfl
      (dnil B2 (by omega) (by omega) rfl rfl)
set_option maxRecDepth 100000 in
set_option maxHeartbeats 2000000 in
theorem dabove_up {a : Option Addr} {m cap M i : Nat} {E bits : Int} {v : Nat} {w : World} (hA : Num w (.slice a m cap) M i) (hT : TabOk w) (hb1 : -9223372036854775808 ≤ bits) (hb2 : bits < 9223372036854775808) (hv : (nbits M : Int) = max bits 1 + v) (hv0 : 0 < v) (hvz : tz M < v) :
    Calls Tryd.prog 25 #[.agg #[.bool false, .slice a m cap, .int .i64 E], .int .i64 bits] w (DP w (resD (mayB m E) (tld false (upN false M v) (E + v))) (resE (mayB m E) (tld false (upN false M v) (E + v)))) := by
  have hb := dbox2 w #[.bool false, .slice a m cap, .int .i64 E] #[.bool false, .slice none 0 0, .int .i64 0] 24 24
  have hbs := fun W => dbox1 W #[.bool false, .slice a m cap, .int .i64 E] 24
  by_cases hm : mayB m E = true
  · have hr : resD (mayB m E) (tld false (upN false M v) (E + v)) = outD (tld false (upN false M v) (E + v)) ∧ resE (mayB m E) (tld false (upN false M v) (E + v)) = outE (tld false (upN false M v) (E + v)) := by rw [hm]; exact ⟨rfl, rfl⟩
    rw [hr.1, hr.2]
    have hm' := hm
    rw [mayB_iff] at hm'
    obtain ⟨e1, e2, e3⟩ := hm'
    have hA := num_may hA e3
    have HM := Lib.hid hm
    have hnb : nbits M ≤ 65536 := nbits_num hA
    clear hm hr
    have hvb : v ≤ 65536 := by omega
    have hv2 : (nbits M : Int) - max bits 1 = v := by omega
    clear hv
    generalize hB1 : max bits 1 = B1 at hv2
    have hw : IntKind.i64.wrap ((nbits M : Int) - B1) = v := by rw [hv2]; exact IntWalk.i64_in _ (by omega)
    have hB2 : 1 ≤ B1 ∧ B1 < 9223372036854775808 := by omega
    obtain ⟨hB2, hB3⟩ := hB2
    have hd : decide ((v : Int) ≤ 0) = false := decide_eq_false (by omega)
    have hwE : IntKind.i64.wrap (E + v) = E + v := IntWalk.i64_in _ (by omega)
    go_enter Tryd.func25, Tryd.ntmps25
    go_wp2_with fail
    obtain ⟨hB, G, R, hsz⟩ := hb _ rfl
    generalize (((w.alloc (.cells #[.bool false, .slice a m cap, .int .i64 E] 24)).alloc (.cells #[.bool false, .slice none 0 0, .int .i64 0] 24))) = W0 at hB G R hsz ⊢
    clear hb
    have c0 := G.cell (i := 0) rfl
    have c1 := G.cell (i := 1) rfl
    have c2 := G.cell (i := 2) rfl
    go_wp2_with fail
    obtain ⟨b1, S, z1⟩ := hbs W0 _ rfl
    generalize (W0.alloc (.cells #[.bool false, .slice a m cap, .int .i64 E] 24)) = W1 at b1 S z1 ⊢
    rw [hsz] at S z1
    refine (checkAll_one_ok _ _ _ _ _ _ _ S HM.out).mono ?_
    rintro e w2 ⟨rfl, b2⟩
    have G := (G.behind b1).behind b2
    have R := (R.behind b1).behind b2
    have B2 := below_both (below_both hB b1) b2
    have hA := hA.behind B2
    have hT := hT.behind B2
    have z2 := b2.size
    clear c0 c1 c2 S hbs
    have c0 := G.cell (i := 0) rfl
    have c1 := G.cell (i := 1) rfl
    have c2 := G.cell (i := 2) rfl
    go_wp2_with fail
    refine (bits_num hA (by omega)).mono ?_
    rintro e w3 ⟨rfl, b3⟩
    have hA := hA.behind b3
    have hT := hT.behind b3
    have G := G.behind b3
    have R := R.behind b3
    have B3 := below_both B2 b3
    have z3 := b3.size
    clear c0 c1 c2
    have c0 := G.cell (i := 0) rfl
    have c1 := G.cell (i := 1) rfl
    have c2 := G.cell (i := 2) rfl
    go_wp2_with fail
    refine (shr_num hA (by omega) (m := v) (by omega)).mono ?_
    rintro e w4 ⟨kv, rfl, nk, b4⟩
    have nkn := nk.shr hA
    obtain ⟨ka, km, kc, rfl⟩ := nkn.slice
    have hA := hA.behind b4
    have hT := hT.behind b4
    have G := G.behind b4
    have R := R.behind b4
    have B4 := below_both B3 b4
    have z4 := b4.size
    clear c0 c1 c2 nk
    have c0 := G.cell (i := 0) rfl
    have c1 := G.cell (i := 1) rfl
    have c2 := G.cell (i := 2) rfl
    go_wp2_with fail
    refine (zeros_num hA (by omega) hT).mono ?_
    rintro e w5 ⟨z, rfl, ⟨hz1, -⟩, b5⟩
    have hA := hA.behind b5
    have nkn := nkn.behind b5
    have hT := hT.behind b5
    have G := G.behind b5
    have R := R.behind b5
    have B5 := below_both B4 b5
    have z5 := b5.size
    have hz := tz_of hz1
    clear c0 c1 c2 hz1
    have hzd : decide ((z : Int) < (v : Int)) = true := decide_eq_true (by omega)
    have hzn : decide (z < v) = true := decide_eq_true (by omega)
    have HZ := Lib.hid (show ¬ (false = true ∨ v ≤ tz M) by simp; omega)
    clear hz hvz
    have h1n := num_one w5 1 (by decide)
    have b6 := bel_alloc w5 (.cells #[.int .u64 ((1 : Nat) : Int)] 45)
    have hT := hT.behind b6
    have nkn := nkn.behind b6
    have G := G.behind b6
    have R := R.behind b6
    have B6 := below_both B5 b6
    have z6 := b6.size
    go_wp2_with fail
    rw [show ((1 : Nat) : Int) = 1 from rfl] at h1n nkn G R B6 z6 hT
    generalize (w5.alloc (.cells #[.int .u64 1] 45)) = W6 at h1n hT nkn G R B6 z6 ⊢
    refine (add_num nkn h1n (by omega) (by omega)).mono ?_
    rintro e w7 ⟨sv, rfl, nkn, -, b7⟩
    obtain ⟨sa, sm, sc, rfl⟩ := nkn.slice
    have hT := hT.behind b7
    have G := G.behind b7
    have R := R.behind b7
    have B7 := below_both B6 b7
    have z7 := b7.size
    clear b6
    have c0 := G.cell (i := 0) rfl
    have c1 := G.cell (i := 1) rfl
    have c2 := G.cell (i := 2) rfl
    go_wp2_with fail
    refine (dtold (s := false) nkn (by omega) hT (by omega) (by omega)).mono ?_
    rintro e w9 ⟨ta, tm, tc, ts, tn, tx, tq, rfl, nt, b9, hR, hQ⟩
    have R := R.behind b9
    have B9 := below_both B7 b9
    have HR := Lib.hid hR
    have HQ := Lib.hid hQ
    clear hR hQ c0 c1 c2 G
    have r0 := R.cell (i := 0) rfl
    have r1 := R.cell (i := 1) rfl
    have r2 := R.cell (i := 2) rfl
    have f0 := R.f 0
    have f1 := R.f 1
    have f2 := R.f 2
    go_wp2
    exact bodyPost_ret (v := .tuple #[.agg #[.bool ts, .slice ta tm tc, .int .i64 tx], .int .i64 tq]) (by simp [results, Tryd.results25, go_sem, r0, r1, r2]) rfl
      (dend B9 (by omega) (by omega) nt (by rw [upN, if_neg HZ.out]; exact HR.out) (by rw [upN, if_neg HZ.out]; exact HQ.out))
  · have hm : mayB m E = false := by simpa using hm
    have hr : resD (mayB m E) (tld false (upN false M v) (E + v)) = ⟨false, 0, 0⟩ ∧ resE (mayB m E) (tld false (upN false M v) (E + v)) = 9 := by rw [hm]; exact ⟨rfl, rfl⟩
    rw [hr.1, hr.2]
    have HM := Lib.hid hm
    clear hm hr
    go_enter Tryd.func25, Tryd.ntmps25
    go_wp2_with fail
    obtain ⟨hB, G, R, hsz⟩ := hb _ rfl
    generalize (((w.alloc (.cells #[.bool false, .slice a m cap, .int .i64 E] 24)).alloc (.cells #[.bool false, .slice none 0 0, .int .i64 0] 24))) = W0 at hB G R hsz ⊢
    clear hb
    have c0 := G.cell (i := 0) rfl
    have c1 := G.cell (i := 1) rfl
    have c2 := G.cell (i := 2) rfl
    go_wp2_with fail
    obtain ⟨b1, S, z1⟩ := hbs W0 _ rfl
    generalize (W0.alloc (.cells #[.bool false, .slice a m cap, .int .i64 E] 24)) = W1 at b1 S z1 ⊢
    rw [hsz] at S z1
    refine (checkAll_one_no _ _ _ _ _ _ _ S HM.out).mono ?_
    rintro e w2 ⟨rfl, b2⟩
    have G := (G.behind b1).behind b2
    have R := (R.behind b1).behind b2
    have B2 := below_both (below_both hB b1) b2
    have hA := hA.behind B2
    have hT := hT.behind B2
    have z2 := b2.size
    clear c0 c1 c2 S hbs
    have r0 := R.cell (i := 0) rfl
    have r1 := R.cell (i := 1) rfl
    have r2 := R.cell (i := 2) rfl
    have f0 := R.f 0
    have f1 := R.f 1
    have f2 := R.f 2
    clear G
    go_wp2
    exact bodyPost_ret (v := .tuple #[.agg #[.bool false, .slice none 0 0, .int .i64 0], .int .i64 9]) (by simp [results, Tryd.results25, go_sem, r0, r1, r2]) rfl
      (dnil B2 (by omega) (by omega) rfl rfl)
end Go.Proofs.YthipbonhkcjcfaaDoor
