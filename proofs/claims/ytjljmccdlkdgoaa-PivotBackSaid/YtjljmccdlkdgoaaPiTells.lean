/- The law PivotTells, walked. -/
import Derived.Test.YtjljmccdlkdgoaaPiSw
import Derived.Test.YtjljmccdlkdgoaaPiGreat
namespace Go.Proofs.Ytjljmccdlkdgoaa
open Go.RowKit Go.Shelf
theorem exE_one {R C : Int} {m : Nat} {i k : Int} : exE R C m 1 (fun _ => i) (fun _ => k) = if mayM R C m = true then (if (inB i R && inB k R) = true then 0 else 4) else 11 := by
  unfold exE
  by_cases h : (inB i R && inB k R) = true
  · have h2 : ∀ n, n < 1 → goodP R (fun _ => i) (fun _ => k) n := fun n _ => by
      rw [Bool.and_eq_true] at h
      exact h
    rw [if_pos h2, if_pos h]
  · have h2 : ¬ ∀ n, n < 1 → goodP R (fun _ => i) (fun _ => k) n := fun hh => h (by
      rw [Bool.and_eq_true]
      exact hh 0 (by omega))
    rw [if_neg h2, if_neg h]
theorem swpC_at {R C i k r j : Nat} {xs : List Nat} (hl : xs.length = R * C) (hr : r < R) (hj : j < C) : lim (swpC C i k C xs) (r * C + j) = lim xs (swpR i k r * C + j) := by
  have h := pl_lt hr hj
  obtain ⟨d, e⟩ := pl_div (i := r) hj
  unfold swpC
  rw [rowV_lim _ (by omega), d, e, if_pos hj]
set_option maxRecDepth 100000 in
set_option maxHeartbeats 16000000 in
theorem pivotTells_no {R C col f k : Int} {m : Nat} {a : Option Addr} {cap : Nat} {xs : List Nat} {w : World} (hA : Arg w (.slice a m cap) xs) (hl : Low 18446744073709551616 xs) (hm : mayM R C m = false) :
    Calls Try.prog 3 #[.agg #[.int .i64 R, .int .i64 C, .slice a m cap], .int .i64 col, .int .i64 f, .int .i64 k] w fun e W' => e = .returned (.bool true) ∧ Below w.heap.size w W' := by
  obtain ⟨B, G⟩ := mbox w #[.int .i64 R, .int .i64 C, .slice a m cap] 24 _ rfl
  have hal := fun w => l24_alive (w := w)
  have HS := Lib.hid (fun (W : World) (h : Below w.heap.size w W) => pivot_search (R := R) (C := C) (col := col) (f := f) (hA.behind h) hl)
  have HW := Lib.hid (fun (W : World) (h : Below w.heap.size w W) => pivot_swap (R := R) (C := C) (i := f) (k := k) (hA.behind h))
  have HC := Lib.hid (fun W => shape_check (R := R) (C := C) (a := a) (m := m) (cap := cap) (w := W))
  have e1 : pivE R C m col f = 11 := by unfold pivE; rw [hm, if_neg (by decide)]
  have e2 : pivR xs R C m col f = 0 := by unfold pivR; rw [e1, if_neg (by decide)]
  have e3 : exE R C m 1 (fun _ => f) (fun _ => k) = 11 := by rw [exE_one, hm, if_neg (by decide)]
  rw [e1, e2] at HS
  rw [e3] at HW
  rw [show chkM R C m = 11 by unfold chkM; rw [hm]; rfl] at HC
  generalize exL C.toNat (fun _ => f) (fun _ => k) xs 1 = L at *
  clear e1 e2 e3 hm hA hl
  go_enter Try.func3, Try.ntmps3
  go_wp2_with fail
  generalize w.alloc (.cells #[.int .i64 R, .int .i64 C, .slice a m cap] 24) = W0 at *
  refine (hal _).mono ?_
  rintro e w1 ⟨rfl, b1⟩
  replace B := below_both B b1
  replace G := G.behind b1
  clear hal b1
  have c0 := G.cell (i := 0) rfl
  have c1 := G.cell (i := 1) rfl
  have c2 := G.cell (i := 2) rfl
  go_wp2_with fail
  refine (HS.out _ B).mono ?_
  rintro e w2 ⟨rfl, b1⟩
  replace B := below_both B b1
  replace G := G.behind b1
  clear HS b1 c0 c1 c2
  have c0 := G.cell (i := 0) rfl
  have c1 := G.cell (i := 1) rfl
  have c2 := G.cell (i := 2) rfl
  go_wp2_with fail
  refine (HW.out _ B).mono ?_
  rintro e w3 ⟨⟨r, c, b, q, cc, rfl, hx⟩, b1⟩
  replace B := below_both B b1
  replace G := G.behind b1
  clear HW b1 c0 c1 c2
  rcases hx with ⟨h, -⟩ | ⟨-, rfl, rfl, rfl, rfl, rfl⟩
  · exact absurd h (by decide)
  obtain ⟨b1, G1⟩ := mbox w3 #[.int .i64 0, .int .i64 0, .slice none 0 0] 24 _ rfl
  replace B := below_both B b1
  replace G := G.behind b1
  clear b1
  have c0 := G.cell (i := 0) rfl
  have c1 := G.cell (i := 1) rfl
  have c2 := G.cell (i := 2) rfl
  go_wp2_with fail
  generalize w3.alloc (.cells #[.int .i64 0, .int .i64 0, .slice none 0 0] 24) = w4 at *
  refine (HC.out _).mono ?_
  rintro e w5 ⟨rfl, b1⟩
  have d2 := (G1.behind b1).cell (i := 2) rfl
  go_wp2
  go_ret
  exact ⟨rfl, below_both B b1⟩
set_option maxRecDepth 100000 in
set_option maxHeartbeats 32000000 in
theorem pivotTells_yes {R C : Nat} {col f k : Int} {m : Nat} {a : Option Addr} {cap : Nat} {xs : List Nat} {w : World} (hA : Arg w (.slice a m cap) xs) (hl : Low 18446744073709551616 xs) (hm : mayM R C m = true) :
    Calls Try.prog 3 #[.agg #[.int .i64 (R : Int), .int .i64 (C : Int), .slice a m cap], .int .i64 col, .int .i64 f, .int .i64 k] w fun e W' => e = .returned (.bool true) ∧ Below w.heap.size w W' := by
  obtain ⟨B, G⟩ := mbox w #[.int .i64 (R : Int), .int .i64 (C : Int), .slice a m cap] 24 _ rfl
  have hal := fun w => l24_alive (w := w)
  have HS := Lib.hid (fun (W : World) (h : Below w.heap.size w W) => pivot_search (R := R) (C := C) (col := col) (f := f) (hA.behind h) hl)
  have HW := Lib.hid (fun (W : World) (h : Below w.heap.size w W) => pivot_swap (R := R) (C := C) (i := f) (k := k) (hA.behind h))
  have HC := Lib.hid (fun W => shape_check (R := R) (C := C) (a := a) (m := m) (cap := cap) (w := W))
  rw [show chkM R C m = 0 by unfold chkM; rw [hm]; rfl] at HC
  obtain ⟨q1, q2, q3, q4, q5⟩ := mayM_facts hm
  have hmn : m = R * C := by rw [← Int.natCast_mul] at q5; omega
  have hxl : m = xs.length := by
    obtain ⟨a', c', e⟩ := hA.slice
    simp only [Value.slice.injEq] at e
    exact e.2.1
  have hrc : R * C ≤ 4096 := by have := Nat.mul_le_mul (show R ≤ 64 by omega) (show C ≤ 64 by omega); omega
  have HMN := Lib.hid (And.intro hmn (And.intro hxl hrc))
  have HLX := Lib.hid hl
  have HM := Lib.hid hm
  have HAA := Lib.hid hA
  obtain ⟨E1, hE1⟩ : ∃ E, E = pivE R C m col f := ⟨_, rfl⟩
  obtain ⟨RR, hRR⟩ : ∃ E, E = pivR xs R C m col f := ⟨_, rfl⟩
  obtain ⟨E2, hE2⟩ : ∃ E, E = exE R C m 1 (fun _ => f) (fun _ => k) := ⟨_, rfl⟩
  rw [← hE1, ← hRR] at HS
  rw [← hE2] at HW
  have hE2' : E2 = if (inB f R && inB k R) = true then 0 else 4 := by rw [hE2, exE_one, hm, if_pos rfl]
  have hE1' : E1 = if (inB col C && inB f R) = true then 0 else 4 := by rw [hE1]; unfold pivE; rw [hm, if_pos rfl]
  have HE1 := Lib.hid hE1'
  have HE2 := Lib.hid hE2'
  have HEE := Lib.hid hE1
  have HRR := Lib.hid hRR
  obtain ⟨L, hL⟩ : ∃ L, L = exL C (fun _ => f) (fun _ => k) xs 1 := ⟨_, rfl⟩
  rw [show (C : Int).toNat = C from rfl, ← hL] at HW
  have HLL := Lib.hid hL
  clear hL hE1 hE2 hRR hE1' hE2' hmn hxl hm hA hl q5 hrc
  go_enter Try.func3, Try.ntmps3
  go_wp2_with fail
  generalize w.alloc (.cells #[.int .i64 (R : Int), .int .i64 (C : Int), .slice a m cap] 24) = W0 at *
  refine (hal _).mono ?_
  rintro e w1 ⟨rfl, b1⟩
  replace B := below_both B b1
  replace G := G.behind b1
  clear hal b1
  have c0 := G.cell (i := 0) rfl
  have c1 := G.cell (i := 1) rfl
  have c2 := G.cell (i := 2) rfl
  go_wp2_with fail
  refine (HS.out _ B).mono ?_
  rintro e w2 ⟨rfl, b1⟩
  replace B := below_both B b1
  replace G := G.behind b1
  clear HS b1 c0 c1 c2
  have c0 := G.cell (i := 0) rfl
  have c1 := G.cell (i := 1) rfl
  have c2 := G.cell (i := 2) rfl
  go_wp2_with fail
  refine (HW.out _ B).mono ?_
  rintro e w3 ⟨⟨r, c, b, q, cc, rfl, hx⟩, b1⟩
  replace B := below_both B b1
  replace G := G.behind b1
  clear HW b1 c0 c1 c2
  obtain ⟨b1, G1⟩ := mbox w3 #[.int .i64 r, .int .i64 c, .slice b q cc] 24 _ rfl
  have HX : Hid ((E2 = 0 ∧ r = (R : Int) ∧ c = (C : Int) ∧ q = m ∧ New w2.heap.size (w3.alloc (.cells #[.int .i64 r, .int .i64 c, .slice b q cc] 24)) (.slice b q cc) L) ∨ (E2 ≠ 0 ∧ r = 0 ∧ c = 0 ∧ q = 0 ∧ b = none ∧ cc = 0)) := Lib.hid (hx.imp (fun ⟨h1, h2, h3, h4, h5⟩ => ⟨h1, h2, h3, h4, h5.behind b1⟩) id)
  replace B := below_both B b1
  replace G := G.behind b1
  clear b1 hx
  have c0 := G.cell (i := 0) rfl
  have c1 := G.cell (i := 1) rfl
  have c2 := G.cell (i := 2) rfl
  go_wp2_with fail
  generalize w3.alloc (.cells #[.int .i64 r, .int .i64 c, .slice b q cc] 24) = w4 at *
  refine (HC.out _).mono ?_
  rintro e w5 ⟨rfl, b1⟩
  replace HX : Hid ((E2 = 0 ∧ r = (R : Int) ∧ c = (C : Int) ∧ q = m ∧ New w2.heap.size w5 (.slice b q cc) L) ∨ (E2 ≠ 0 ∧ r = 0 ∧ c = 0 ∧ q = 0 ∧ b = none ∧ cc = 0)) := Lib.hid (HX.out.imp (fun ⟨h1, h2, h3, h4, h5⟩ => ⟨h1, h2, h3, h4, h5.behind b1⟩) id)
  replace B := below_both B b1
  replace G := G.behind b1
  replace G1 := G1.behind b1
  clear HC b1 c0 c1 c2
  have c0 := G.cell (i := 0) rfl
  have c1 := G.cell (i := 1) rfl
  have HB5 := Lib.hid B
  go_upto_region 7 with (fail)
  obtain ⟨ob, hob⟩ : ∃ o, o = !(inB col C && inB f R) := ⟨_, rfl⟩
  have HOB := Lib.hid hob
  go_cut [72] from 55 to 72 (fun u wx => u = .bool ob ∧ wx = w5)
  case first =>
    cases hb : (inB col C && inB f R)
    · as_aux_lemma =>
      have ho : ob = true := by rw [hob, hb]; rfl
      subst ho
      clear hob
      by_cases k1 : 0 ≤ f
      · by_cases k2 : f < R
        · by_cases k3 : 0 ≤ col
          · have k4 : ¬ col < C := fun h => by
              rw [inB_iff.2 ⟨k1, k2⟩, inB_iff.2 ⟨k3, h⟩] at hb; cases hb
            clear HE1 HE2 HEE HRR hb HOB
            go_wp2
            go_meet
            exact ⟨rfl, rfl⟩
          · clear HE1 HE2 HEE HRR hb HOB
            go_wp2
            go_meet
            exact ⟨rfl, rfl⟩
        · clear HE1 HE2 HEE HRR hb HOB
          go_wp2
          go_meet
          exact ⟨rfl, rfl⟩
      · clear HE1 HE2 HEE HRR hb HOB
        go_wp2
        go_meet
        exact ⟨rfl, rfl⟩
    · as_aux_lemma =>
      have ho : ob = false := by rw [hob, hb]; rfl
      subst ho
      rw [Bool.and_eq_true] at hb
      obtain ⟨k1, k2⟩ := inB_iff.1 hb.1
      obtain ⟨k3, k4⟩ := inB_iff.1 hb.2
      have d1 : decide (f < 0) = false := decide_eq_false (by omega)
      have d2 : decide ((R : Int) ≤ f) = false := decide_eq_false (by omega)
      have d3 : decide (col < 0) = false := decide_eq_false (by omega)
      have d4 : decide ((C : Int) ≤ col) = false := decide_eq_false (by omega)
      clear HE1 HE2 HEE HRR hb HOB hob k1 k2 k3 k4
      go_wp2
      go_meet
      exact ⟨by simp, rfl⟩
  obtain ⟨rfl, hw3⟩ := hcut
  cases hw3
  clear hob
  go_upto_if 72 with (fail)
  go_cut [] from 13 to 113 (fun wx => Below w5.heap.size w5 wx)
  case first =>
    cases hb : (inB col C && inB f R)
    · as_aux_lemma =>
      have hE := HE1.out
      rw [hb, if_neg (by decide)] at hE
      have hR0 : RR = 0 := by
        rw [HRR.out]
        unfold pivR
        rw [← HEE.out, hE, if_neg (by decide)]
      subst hE hR0
      have ho : ob = true := by rw [HOB.out, hb]; rfl
      subst ho
      clear HE1 HE2 HEE HRR hb HOB
      go_wp2
      go_meet
      exact Below.refl _ _
    · as_aux_lemma =>
      have hE := HE1.out
      rw [hb, if_pos rfl] at hE
      have ho : ob = false := by rw [HOB.out, hb]; rfl
      subst ho
      clear HOB
      rw [Bool.and_eq_true] at hb
      obtain ⟨k1, k2⟩ := inB_iff.1 hb.1
      obtain ⟨k3, k4⟩ := inB_iff.1 hb.2
      obtain ⟨j, rfl⟩ : ∃ j : Nat, col = j := ⟨col.toNat, by omega⟩
      obtain ⟨g, rfl⟩ : ∃ g : Nat, f = g := ⟨f.toNat, by omega⟩
      have hRR : RR = g + max (larV (colW xs C j g (R - g)) (R - g)).1 0 := by
        rw [HRR.out]
        unfold pivR
        rw [if_pos (by rw [← HEE.out]; exact hE)]
        simp only [Int.toNat_natCast]
      subst hE
      have hl := HLX.out
      have hrg := larV_range (colW xs C j g (R - g)) (R - g)
      have HLG := Lib.hid (fun (W : World) (v : Value) (h : Arg W v (colW xs C j g (R - g))) => vec_largest h (colW_low hl C j g (R - g)) (by rw [colW_length]; omega))
      have HCL := Lib.hid (colW_length xs C j g (R - g))
      have HSC := Lib.hid (colW_succ xs C j g)
      have H0 := Lib.hid (show colW xs C j g 0 = [] from rfl)
      have hA := HAA.out
      obtain ⟨S, a', c', hS, e, hcap, HA⟩ := hA.opened
      simp only [Value.slice.injEq] at e
      obtain ⟨rfl, -, rfl⟩ := e
      have hw0 : w.heap.size < w5.heap.size := G.lt
      rw [HCL.out] at HLG
      have HRQ := Lib.hid hRR
      clear hA hcap hl hRR hb HAA HE1 HE2 HEE HRR HX
      generalize larV (colW xs C j g (R - g)) (R - g) = LV at *
      obtain ⟨z, n⟩ := LV
      dsimp only at hrg HRQ
      go_wp2
      go_loopw [13, 14] (fun d i wr => ∃ t : Nat, g + t ≤ R ∧ i = .int .i64 ((g : Int) + (t : Int)) ∧ OwnK .u64 32 w5.heap.size wr d (zn (colW xs C j g t)) ∧ Below w5.heap.size w5 wr) (fun _ i _ => R - (intOf i).toNat)
      case atStart => exact ⟨0, by omega, by simp, by rw [H0.out]; exact OwnK.nil _ _ _ _, Below.refl _ _⟩
      case round =>
        clear c0 c1
        obtain ⟨t, ht, rfl, ho, hB⟩ := hrel
        have c00 := (G.behind hB).cell (i := 0) rfl
        by_cases hlt : g + t < R
        · have hrc := HMN.out.2.2
          have hmn := HMN.out.1
          have m1 : (g + t) * C + C ≤ R * C := by
            have := Nat.mul_le_mul_right C (show g + t + 1 ≤ R from hlt)
            rw [Nat.add_mul, Nat.one_mul] at this
            exact this
          obtain ⟨P, hP⟩ : ∃ P, P = (g + t) * C := ⟨_, rfl⟩
          have hPm : P + j < m := by omega
          obtain ⟨off, rfl, ka⟩ := HA.out wr (below_both B hB) (P + j) (by rw [← HMN.out.2.1]; exact hPm)
          have e1 : IntKind.i64.wrap (((g : Int) + (t : Int)) * (C : Int)) = (P : Int) := by
            rw [show ((g : Int) + (t : Int)) * (C : Int) = (P : Int) by rw [hP, Int.natCast_mul, Int.natCast_add]]
            exact IntWalk.i64_in _ (by omega)
          have e2 : IntKind.i64.wrap ((P : Int) + (j : Int)) = ((P + j : Nat) : Int) := by rw [← Int.natCast_add]; exact IntWalk.i64_in _ (by omega)
          have HS1 := Lib.hid (HSC.out t)
          rw [← hP] at HS1
          have c01 := (G.behind hB).cell (i := 1) rfl
          have c02 := (G.behind hB).cell (i := 2) rfl
          have hlen : (zn (colW xs C j g t)).length + 1 ≤ 17592186044416 := by rw [zn_length, colW_length]; omega
          have hlt2 : (g : Int) + (t : Int) < (R : Int) := by omega
          have hgt : (g : Int) + (t : Int) ≤ 63 := by omega
          generalize lim xs (P + j) = x at *
          generalize hQ : P + j = Q at *
          have hQm : (Q : Int) < (m : Int) := by omega
          clear hP m1 hrc hmn hPm hQ
          go_wp2_with (at_builtin; refine app_u64 rfl _ _ rfl rfl rfl (cell_new1 _ _ _) (ho.alloc _) hlen (by have := hB.size; simp; omega) ?_; intro v' w3 ho3 b3)
          go_roundw
          case rel => exact ⟨t + 1, by omega, by simp; omega, by rw [HS1.out, zn_snoc]; exact ho3, (hB.alloc hB.size _).trans b3⟩
          case measure => simp [intOf]; omega
        · obtain rfl : R = g + t := by omega
          have hA := (new_zn.2 (ho.new (by have := hB.size; omega))).arg
          rw [show g + t - g = t by omega] at HLG
          have HL2 := Lib.hid (HLG.out wr _ hA)
          clear ho hA HLG hlt
          have hmx : ∀ (w : World) (ts : Array TypeId) (ty : TypeId), (Builtin.max_ ts ty #[.int .i64 z, .int .i64 0]).run Try.prog w = .ok (.int .i64 (max z 0)) w := fun w ts ty => max_twoM w ts ty z 0
          have hz : max z 0 ≤ (g + t : Nat) := by omega
          have hz0 : 0 ≤ max z 0 := by omega
          have hRQ := HRQ.out
          generalize max z 0 = zz at hmx hz hz0 hRQ
          subst hRQ
          go_wp2_with fail
          refine HL2.out.mono ?_
          rintro e w6 ⟨rfl, b6⟩
          go_wp2_with fail
          go_meet
          exact below_both hB b6
  have hB6 := hcut
  obtain ⟨w6, rfl⟩ : ∃ wo, wo = wc := ⟨_, rfl⟩
  clear HE1 HEE HRR hcut c0 c1 B HOB
  replace G := G.behind hB6
  replace G1 := G1.behind hB6
  have B6 := below_both HB5.out hB6
  have c0 := G.cell (i := 0) rfl
  have c1 := G.cell (i := 1) rfl
  have d2 := G1.cell (i := 2) rfl
  cases hb : (inB f R && inB k R)
  · have hE := HE2.out
    rw [hb, if_neg (by decide)] at hE
    subst hE
    rcases HX.out with ⟨h, -⟩ | ⟨-, rfl, rfl, rfl, rfl, rfl⟩
    · exact absurd h (by decide)
    by_cases k1 : 0 ≤ f
    · by_cases k2 : f < R
      · by_cases k3 : 0 ≤ k
        · have k4 : ¬ k < R := fun h => by
            rw [inB_iff.2 ⟨k1, k2⟩, inB_iff.2 ⟨k3, h⟩] at hb; cases hb
          clear HE2 hb HX
          go_wp2
          go_ret
          exact ⟨rfl, B6⟩
        · clear HE2 hb HX
          go_wp2
          go_ret
          exact ⟨rfl, B6⟩
      · clear HE2 hb HX
        go_wp2
        go_ret
        exact ⟨rfl, B6⟩
    · clear HE2 hb HX
      go_wp2
      go_ret
      exact ⟨rfl, B6⟩
  · have hE := HE2.out
    rw [hb, if_pos rfl] at hE
    subst hE
    rcases HX.out with ⟨-, rfl, rfl, rfl, hN⟩ | ⟨h, -⟩
    case inr => exact absurd rfl h
    rw [Bool.and_eq_true] at hb
    obtain ⟨k1, k2⟩ := inB_iff.1 hb.1
    obtain ⟨k3, k4⟩ := inB_iff.1 hb.2
    obtain ⟨f, rfl⟩ : ∃ j : Nat, f = j := ⟨f.toNat, by omega⟩
    obtain ⟨k, rfl⟩ : ∃ g : Nat, k = g := ⟨k.toNat, by omega⟩
    have hLe : L = swpC C f k C xs := HLL.out
    have hNA := (hN.behind hB6).arg
    have hA := HAA.out
    obtain ⟨S, a', c', hS, e, hcap, HA⟩ := hA.opened
    simp only [Value.slice.injEq] at e
    obtain ⟨rfl, -, rfl⟩ := e
    obtain ⟨S2, a2, c2', hS2, e2, hcap2, HA2⟩ := hNA.opened
    simp only [Value.slice.injEq] at e2
    obtain ⟨rfl, -, rfl⟩ := e2
    have HBB : Hid (Below w6.heap.size w6 w6) := Lib.hid (Below.refl _ _)
    have HTAB : Hid (∀ i r j : Nat, i < R → (r < R ∧ r = swpR f k i) → j < C → ∃ x P1 A1 P2 A2 : Nat, IntKind.i64.wrap ((i : Int) * (C : Int)) = (P1 : Int) ∧ IntKind.i64.wrap ((P1 : Int) + (j : Int)) = (A1 : Int) ∧ IntKind.i64.wrap ((r : Int) * (C : Int)) = (P2 : Int) ∧ IntKind.i64.wrap ((P2 : Int) + (j : Int)) = (A2 : Int) ∧ (A1 : Int) < (q : Int) ∧ (A2 : Int) < (q : Int) ∧
        (∀ W, Below w.heap.size w W → ∃ off, a = some ⟨S, off, none⟩ ∧ W.cell? ⟨S, off + A2, none⟩ = some (.int .u64 (x : Int))) ∧ (∀ W, Below w6.heap.size w6 W → ∃ off, b = some ⟨S2, off, none⟩ ∧ W.cell? ⟨S2, off + A1, none⟩ = some (.int .u64 (x : Int)))) := Lib.hid (fun i r j hi ⟨hr1, hr2⟩ hj => by
      have a1 := pl_lt hi hj
      have a2 := pl_lt hr1 hj
      obtain ⟨u1, u2, u3⟩ := HMN.out
      have hv : lim L (i * C + j) = lim xs (r * C + j) := by rw [hLe, hr2]; exact swpC_at (by omega) hi hj
      have hLl : L.length = q := by rw [hLe, swpC_length]; omega
      refine ⟨lim xs (r * C + j), i * C, i * C + j, r * C, r * C + j, by rw [← Int.natCast_mul]; exact IntWalk.i64_in _ (by omega), by rw [← Int.natCast_add]; exact IntWalk.i64_in _ (by omega), by rw [← Int.natCast_mul]; exact IntWalk.i64_in _ (by omega), by rw [← Int.natCast_add]; exact IntWalk.i64_in _ (by omega), by omega, by omega, fun W hW => HA.out W hW _ (by omega), fun W hW => ?_⟩
      rw [← hv]
      exact HA2.out W hW _ (by omega))
    clear hA hcap hcap2 hLe hNA hN hb HLL HX HE2 HAA HA HA2 HM HLX HB5 d2
    have z1 : decide ((f : Int) < 0) = false := decide_eq_false (by omega)
    have z2 : decide ((R : Int) ≤ (f : Int)) = false := decide_eq_false (by omega)
    have z3 : decide ((k : Int) < 0) = false := decide_eq_false (by omega)
    have z4 : decide ((R : Int) ≤ (k : Int)) = false := decide_eq_false (by omega)
    go_wp2
    go_loopw [17] (fun z wr => ∃ i : Nat, i ≤ R ∧ z = .int .i64 i ∧ Below w6.heap.size w6 wr) (fun z _ => R - (intOf z).toNat)
    case atStart => exact ⟨0, Nat.zero_le _, rfl, Below.refl _ _⟩
    case round =>
      clear c0 c1
      obtain ⟨i, hi, rfl, hBi⟩ := hrel
      have c0 := (G.behind hBi).cell (i := 0) rfl
      have c1 := (G.behind hBi).cell (i := 1) rfl
      by_cases hlt2 : i < R
      · have hic : decide ((i : Int) < (R : Int)) = true := decide_eq_true (by omega)
        by_cases e1 : i = f
        · as_aux_lemma =>
          skip
          have HRI : Hid (k < R ∧ k = swpR f k i) := Lib.hid ⟨by omega, by unfold swpR; rw [if_pos e1]⟩
          have x1 : ((i : Int) == (f : Int)) = true := by simp [e1]
          clear e1
          go_wp2
          go_loopw [19] (fun z wr => ∃ j : Nat, j ≤ C ∧ z = .int .i64 j ∧ Below w6.heap.size w6 wr) (fun z _ => C - (intOf z).toNat)
          case atStart => exact ⟨0, Nat.zero_le _, rfl, hBi⟩
          case round =>
            clear c0 c1
            obtain ⟨j, hj, rfl, hBj⟩ := hrel
            have c1 := (G.behind hBj).cell (i := 1) rfl
            by_cases hlt3 : j < C
            · have hjc : decide ((j : Int) < (C : Int)) = true := decide_eq_true (by omega)
              obtain ⟨x, P1, A1, P2, A2, y1, y2, y3, y4, y5, y6, y7, y8⟩ := HTAB.out i k j hlt2 HRI.out hlt3
              have d2 := (G1.behind hBj).cell (i := 2) rfl
              have c2 := (G.behind hBj).cell (i := 2) rfl
              obtain ⟨o1, rfl, ka⟩ := y7 _ (below_both B6 hBj)
              obtain ⟨o2, rfl, kb⟩ := y8 _ (below_both HBB.out hBj)
              have e5 : IntKind.i64.wrap ((j : Int) + 1) = ((j + 1 : Nat) : Int) := by rw [Int.natCast_add]; exact IntWalk.i64_in _ (by omega)
              clear y7 y8
              go_wp2
              go_quiet (fail)
              go_wp2
              exact ⟨⟨j + 1, by omega, rfl, below_both hBj (below_drewN _ _ _)⟩, by simp [intOf]; omega⟩
            · obtain rfl : j = C := by omega
              have hjc : decide ((j : Int) < (j : Int)) = false := by simp
              have e5 : IntKind.i64.wrap ((i : Int) + 1) = ((i + 1 : Nat) : Int) := by rw [Int.natCast_add]; exact IntWalk.i64_in _ (by omega)
              go_wp2
              exact ⟨⟨i + 1, by omega, rfl, hBj⟩, by simp [intOf]; omega⟩
        · by_cases e2 : i = k
          · as_aux_lemma =>
            skip
            have HRI : Hid (f < R ∧ f = swpR f k i) := Lib.hid ⟨by omega, by unfold swpR; rw [if_neg e1, if_pos e2]⟩
            have x1 : ((i : Int) == (f : Int)) = false := by simp; omega
            have x2 : ((i : Int) == (k : Int)) = true := by simp [e2]
            clear e1 e2
            go_wp2
            go_loopw [19] (fun z wr => ∃ j : Nat, j ≤ C ∧ z = .int .i64 j ∧ Below w6.heap.size w6 wr) (fun z _ => C - (intOf z).toNat)
            case atStart => exact ⟨0, Nat.zero_le _, rfl, hBi⟩
            case round =>
              clear c0 c1
              obtain ⟨j, hj, rfl, hBj⟩ := hrel
              have c1 := (G.behind hBj).cell (i := 1) rfl
              by_cases hlt3 : j < C
              · have hjc : decide ((j : Int) < (C : Int)) = true := decide_eq_true (by omega)
                obtain ⟨x, P1, A1, P2, A2, y1, y2, y3, y4, y5, y6, y7, y8⟩ := HTAB.out i f j hlt2 HRI.out hlt3
                have d2 := (G1.behind hBj).cell (i := 2) rfl
                have c2 := (G.behind hBj).cell (i := 2) rfl
                obtain ⟨o1, rfl, ka⟩ := y7 _ (below_both B6 hBj)
                obtain ⟨o2, rfl, kb⟩ := y8 _ (below_both HBB.out hBj)
                have e5 : IntKind.i64.wrap ((j : Int) + 1) = ((j + 1 : Nat) : Int) := by rw [Int.natCast_add]; exact IntWalk.i64_in _ (by omega)
                clear y7 y8
                go_wp2
                go_quiet (fail)
                go_wp2
                exact ⟨⟨j + 1, by omega, rfl, below_both hBj (below_drewN _ _ _)⟩, by simp [intOf]; omega⟩
              · obtain rfl : j = C := by omega
                have hjc : decide ((j : Int) < (j : Int)) = false := by simp
                have e5 : IntKind.i64.wrap ((i : Int) + 1) = ((i + 1 : Nat) : Int) := by rw [Int.natCast_add]; exact IntWalk.i64_in _ (by omega)
                go_wp2
                exact ⟨⟨i + 1, by omega, rfl, hBj⟩, by simp [intOf]; omega⟩
          · as_aux_lemma =>
            skip
            have HRI : Hid (i < R ∧ i = swpR f k i) := Lib.hid ⟨by omega, by unfold swpR; rw [if_neg e1, if_neg e2]⟩
            have x1 : ((i : Int) == (f : Int)) = false := by simp; omega
            have x2 : ((i : Int) == (k : Int)) = false := by simp; omega
            clear e1 e2
            go_wp2
            go_loopw [19] (fun z wr => ∃ j : Nat, j ≤ C ∧ z = .int .i64 j ∧ Below w6.heap.size w6 wr) (fun z _ => C - (intOf z).toNat)
            case atStart => exact ⟨0, Nat.zero_le _, rfl, hBi⟩
            case round =>
              clear c0 c1
              obtain ⟨j, hj, rfl, hBj⟩ := hrel
              have c1 := (G.behind hBj).cell (i := 1) rfl
              by_cases hlt3 : j < C
              · have hjc : decide ((j : Int) < (C : Int)) = true := decide_eq_true (by omega)
                obtain ⟨x, P1, A1, P2, A2, y1, y2, y3, y4, y5, y6, y7, y8⟩ := HTAB.out i i j hlt2 HRI.out hlt3
                have d2 := (G1.behind hBj).cell (i := 2) rfl
                have c2 := (G.behind hBj).cell (i := 2) rfl
                obtain ⟨o1, rfl, ka⟩ := y7 _ (below_both B6 hBj)
                obtain ⟨o2, rfl, kb⟩ := y8 _ (below_both HBB.out hBj)
                obtain rfl : P1 = P2 := by have := y1.symm.trans y3; omega
                obtain rfl : A1 = A2 := by have := y2.symm.trans y4; omega
                clear y3 y4 y6
                have e5 : IntKind.i64.wrap ((j : Int) + 1) = ((j + 1 : Nat) : Int) := by rw [Int.natCast_add]; exact IntWalk.i64_in _ (by omega)
                clear y7 y8
                go_wp2
                go_quiet (fail)
                go_wp2
                exact ⟨⟨j + 1, by omega, rfl, below_both hBj (below_drewN _ _ _)⟩, by simp [intOf]; omega⟩
              · obtain rfl : j = C := by omega
                have hjc : decide ((j : Int) < (j : Int)) = false := by simp
                have e5 : IntKind.i64.wrap ((i : Int) + 1) = ((i + 1 : Nat) : Int) := by rw [Int.natCast_add]; exact IntWalk.i64_in _ (by omega)
                go_wp2
                exact ⟨⟨i + 1, by omega, rfl, hBj⟩, by simp [intOf]; omega⟩
      · obtain rfl : i = R := by omega
        have hic : decide ((i : Int) < (i : Int)) = false := by simp
        have d0 := (G1.behind hBi).cell (i := 0) rfl
        have d1 := (G1.behind hBi).cell (i := 1) rfl
        go_wp2
        go_ret
        exact ⟨rfl, below_both B6 hBi⟩
theorem pivotTells_calls {R C col f k : Int} {m : Nat} {a : Option Addr} {cap : Nat} {xs : List Nat} {w : World} (hA : Arg w (.slice a m cap) xs) (hl : Low 18446744073709551616 xs) :
    Calls Try.prog 3 #[.agg #[.int .i64 R, .int .i64 C, .slice a m cap], .int .i64 col, .int .i64 f, .int .i64 k] w fun e W' => e = .returned (.bool true) ∧ Below w.heap.size w W' := by
  cases hm : mayM R C m
  · exact pivotTells_no hA hl hm
  · obtain ⟨q1, q2, q3, q4, q5⟩ := mayM_facts hm
    obtain ⟨R, rfl⟩ : ∃ r : Nat, R = r := ⟨R.toNat, by omega⟩
    obtain ⟨C, rfl⟩ : ∃ c : Nat, C = c := ⟨C.toNat, by omega⟩
    exact pivotTells_yes hA hl hm
end Go.Proofs.Ytjljmccdlkdgoaa
