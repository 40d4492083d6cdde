/- The law PivotGreatest, walked. -/
import Derived.Test.YtgppbimbampenabPiSpec
import Derived.BigRegion
namespace Go.Proofs.Ytgppbimbampenab
open Go.RowKit Go.Shelf
theorem low_pv {a b : Nat} (ha : a < 18446744073709551616) (hb : b < 18446744073709551616) : Low 18446744073709551616 [a, b] := by
  intro x hx
  simp only [List.mem_cons, List.not_mem_nil, or_false] at hx
  rcases hx with rfl | rfl <;> assumption
theorem piv_one : pivR [0, 4607182418800017408] 2 1 2 0 0 = 1 ∧ pivE 2 1 2 0 0 = 0 := by decide
theorem l24_alive {w : World} : Calls Try.prog 15 #[] w fun e W' => e = .returned (.bool true) ∧ Below w.heap.size w W' := by
  have af : Arg (w.alloc (.cells #[.int .u64 0, .int .u64 4607182418800017408] 30)) (.slice (some ⟨w.heap.size, 0, none⟩) 2 2) [0, 4607182418800017408] := by
    refine ⟨w.heap.size, by rw [World.size_alloc]; omega, .inr ⟨0, 2, rfl, Nat.le_refl _, fun j hj => ?_⟩⟩
    have : j = 0 ∨ j = 1 := by simp at hj; omega
    rcases this with rfl | rfl
    · rw [World.cell?_alloc_new]; rfl
    · rw [World.cell?_alloc_new]; rfl
  have b1 : Below w.heap.size w (w.alloc (.cells #[.int .u64 0, .int .u64 4607182418800017408] 30)) := (Below.refl _ w).alloc (Nat.le_refl _) _
  obtain ⟨b2, G⟩ := mbox (w.alloc (.cells #[.int .u64 0, .int .u64 4607182418800017408] 30)) #[.int .i64 2, .int .i64 1, .slice (some ⟨w.heap.size, 0, none⟩) 2 2] 24 _ rfl
  have c00 := G.cell (i := 0) rfl
  have c01 := G.cell (i := 1) rfl
  have c02 := G.cell (i := 2) rfl
  have h := pivot_search (R := 2) (C := 1) (col := 0) (f := 0) (af.behind b2) (low_pv (by decide) (by decide))
  rw [piv_one.1, piv_one.2] at h
  go_enter Try.func15, Try.ntmps15
  go_wp2_with fail
  refine h.mono ?_
  rintro e w3 ⟨rfl, b3⟩
  go_wp2
  go_ret
  exact ⟨rfl, below_both (below_both b1 b2) b3⟩
/-- what Search tells of a matrix whose numbers are finite -/
theorem piv_best {xs : List Nat} {C j g n : Nat} (hn : 0 < n) (hf : ∀ k, k < n → cls (lim xs ((g + k) * C + j)) ≤ 1) :
    ∃ a : Nat, (larV (colW xs C j g n) n).1 = (a : Int) ∧ a < n ∧ ∀ t, t < n → mag (lim xs ((g + t) * C + j)) ≤ mag (lim xs ((g + a) * C + j)) ∧ (mag (lim xs ((g + t) * C + j)) = mag (lim xs ((g + a) * C + j)) → a ≤ t) := by
  obtain ⟨h1, h2, h3⟩ := larV_best (colW xs C j g n) n
  have h0 := h1 0 hn (by rw [colW_at hn]; have := hf 0 hn; omega)
  obtain ⟨a, e, ha, hm, _⟩ := h3 (by omega)
  rw [colW_at ha] at hm
  refine ⟨a, e, ha, fun t ht => ?_⟩
  have q := h1 t ht (by rw [colW_at ht]; have := hf t ht; omega)
  rw [colW_at ht, ← hm] at q
  exact ⟨q.2.1, fun h => by have := q.2.2 h; omega⟩
set_option maxRecDepth 100000 in
set_option maxHeartbeats 8000000 in
theorem pivotGreatest_calls {R C col f : Int} {m : Nat} {a : Option Addr} {cap : Nat} {xs : List Nat} {w : World} (hA : Arg w (.slice a m cap) xs) (hl : Low 18446744073709551616 xs) :
    Calls Try.prog 3 #[.agg #[.int .i64 R, .int .i64 C, .slice a m cap], .int .i64 col, .int .i64 f] w fun e W' => e = .returned (.bool true) ∧ Below w.heap.size w W' := by
  have hal := fun w => l24_alive (w := w)
  obtain ⟨B, G⟩ := mbox w #[.int .i64 R, .int .i64 C, .slice a m cap] 24 _ rfl
  have c00 := G.cell (i := 0) rfl
  have c01 := G.cell (i := 1) rfl
  have c02 := G.cell (i := 2) rfl
  have HS := Lib.hid (fun (W : World) (h : Below w.heap.size w W) => pivot_search (R := R) (C := C) (col := col) (f := f) (hA.behind h) hl)
  have HF := Lib.hid (fun (W : World) (h : Below w.heap.size w W) => shape_finite (R := R) (C := C) (hA.behind h) hl)
  by_cases hE : pivE R C m col f = 0
  · rw [hE] at HS
    by_cases hFM : finM R C m xs = 0
    · rw [hFM] at HF
      have hgood : mayM R C m = true ∧ inB col C = true ∧ inB f R = true := by
        unfold pivE at hE
        cases h1 : mayM R C m
        · rw [h1] at hE; simp at hE
        · rw [h1] at hE
          cases h2 : inB col C <;> cases h3 : inB f R <;> rw [h2, h3] at hE <;> simp at hE
          exact ⟨rfl, rfl, rfl⟩
      obtain ⟨hm, hb1, hb2⟩ := hgood
      obtain ⟨q1, q2, q3, q4, q5⟩ := mayM_facts hm
      obtain ⟨k1, k2⟩ := inB_iff.1 hb1
      obtain ⟨k3, k4⟩ := inB_iff.1 hb2
      obtain ⟨r, rfl⟩ : ∃ r : Nat, R = r := ⟨R.toNat, by omega⟩
      obtain ⟨c, rfl⟩ : ∃ c : Nat, C = c := ⟨C.toNat, by omega⟩
      obtain ⟨j, rfl⟩ : ∃ j : Nat, col = j := ⟨col.toNat, by omega⟩
      obtain ⟨g, rfl⟩ : ∃ g : Nat, f = g := ⟨f.toNat, by omega⟩
      have hmn : m = r * c := by rw [← Int.natCast_mul] at q5; omega
      have hxl : m = xs.length := by
        obtain ⟨a', c', e⟩ := hA.slice
        simp only [Value.slice.injEq] at e
        exact e.2.1
      have hrc : r * c ≤ 4096 := by have := Nat.mul_le_mul (show r ≤ 64 by omega) (show c ≤ 64 by omega); omega
      have hall : ∀ q, q < m → cls (lim xs q) ≤ 1 := fun q hq => by
        unfold finM at hFM
        rw [hm, if_pos rfl, hxl, finU_any] at hFM
        have h : xs.any (fun x => decide (2 ≤ cls x)) = false := by
          cases h : xs.any (fun x => decide (2 ≤ cls x))
          · rfl
          · rw [h] at hFM; simp at hFM
        rw [List.any_eq_false] at h
        have := h (lim xs q) (by unfold lim; rw [List.getElem?_eq_getElem (by omega)]; exact List.getElem_mem _)
        simp only [decide_eq_true_eq] at this
        omega
      have hpl : ∀ t, t < r - g → (g + t) * c + j < m := fun t ht => by
        have := Nat.mul_le_mul_right c (show g + t + 1 ≤ r by omega)
        rw [Nat.add_mul, Nat.one_mul] at this
        omega
      obtain ⟨b, hb, hbn, hbest⟩ := piv_best (xs := xs) (C := c) (j := j) (g := g) (n := r - g) (by omega) (fun t ht => hall _ (hpl t ht))
      have hR : pivR xs r c m j g = ((g + b : Nat) : Int) := by
        unfold pivR
        rw [if_pos hE]
        simp only [Int.toNat_natCast]
        rw [hb]
        omega
      rw [hR] at HS
      have HMN := Lib.hid (And.intro hmn (And.intro hxl hrc))
      have HPL := Lib.hid hpl
      have HBS := Lib.hid hbest
      have HXL := Lib.hid (fun k => lim_lt hl (by decide : 0 < 18446744073709551616) k)
      obtain ⟨S, a', c', hS, e, hcap, HA⟩ := hA.opened
      simp only [Value.slice.injEq] at e
      obtain ⟨rfl, -, rfl⟩ := e
      have hgb : g + b < r := by omega
      clear hm hb1 hb2 q5 hmn hxl hrc hall hpl hb hbest hR hE hFM hA hl hcap hbn
      generalize hgB : g + b = n at *
      have HGB := Lib.hid hgB
      clear hgB
      go_enter Try.func3, Try.ntmps3
      go_wp2_with fail
      generalize w.alloc (.cells #[.int .i64 (r : Int), .int .i64 (c : Int), .slice a m cap] 24) = W0 at *
      refine (hal _).mono ?_
      rintro e w1 ⟨rfl, b1⟩
      replace B := below_both B b1
      replace G := G.behind b1
      have c00 := G.cell (i := 0) rfl
      have c01 := G.cell (i := 1) rfl
      have c02 := G.cell (i := 2) rfl
      clear hal b1
      go_wp2_with fail
      refine (HS.out _ B).mono ?_
      rintro e w2 ⟨rfl, b2⟩
      replace B := below_both B b2
      replace G := G.behind b2
      have c00 := G.cell (i := 0) rfl
      have c01 := G.cell (i := 1) rfl
      have c02 := G.cell (i := 2) rfl
      clear HS b2
      go_wp2_with fail
      refine (HF.out _ B).mono ?_
      rintro e w3 ⟨rfl, b3⟩
      replace B := below_both B b3
      replace G := G.behind b3
      clear HF b3 c00 c01 c02
      go_wp2
      go_loopw [9] (fun i wr => ∃ t : Nat, g + t ≤ r ∧ i = .int .i64 ((g : Int) + (t : Int)) ∧ Below w3.heap.size w3 wr) (fun i _ => r - (intOf i).toNat)
      case atStart => exact ⟨0, by omega, by simp, Below.refl _ _⟩
      case round =>
        obtain ⟨t, ht, rfl, hB⟩ := hrel
        have c00 := (G.behind hB).cell (i := 0) rfl
        by_cases hlt : g + t < r
        · have hpt := HPL.out t (by omega)
          have hpb := HPL.out b (by have := HGB.out; omega)
          rw [HGB.out] at hpb
          obtain ⟨bs1, bs2⟩ := HBS.out t (by omega)
          have hrc := HMN.out.2.2
          have hmn := HMN.out.1
          obtain ⟨P, hP⟩ : ∃ P, P = (g + t) * c := ⟨_, rfl⟩
          obtain ⟨P2, hP2⟩ : ∃ P, P = n * c := ⟨_, rfl⟩
          rw [← hP] at hpt bs1 bs2
          rw [← hP2] at hpb bs1 bs2
          obtain ⟨off, rfl, ka⟩ := HA.out wr (below_both B hB) (P + j) (by rw [← HMN.out.2.1]; exact hpt)
          have hkb : wr.cell? ⟨S, off + (P2 + j), none⟩ = some (.int .u64 (lim xs (P2 + j) : Int)) := by
            obtain ⟨o2, e, h2⟩ := HA.out wr (below_both B hB) (P2 + j) (by rw [← HMN.out.2.1]; exact hpb)
            simp only [Option.some.injEq, Addr.mk.injEq] at e
            obtain ⟨_, rfl, _⟩ := e
            exact h2
          have e1 : IntKind.i64.wrap (((g : Int) + (t : Int)) * (c : Int)) = (P : Int) := by
            rw [show ((g : Int) + (t : Int)) * (c : Int) = (P : Int) by rw [hP, Int.natCast_mul, Int.natCast_add]]
            exact IntWalk.i64_in _ (by omega)
          have e2 : IntKind.i64.wrap ((P : Int) + (j : Int)) = ((P + j : Nat) : Int) := by rw [← Int.natCast_add]; exact IntWalk.i64_in _ (by omega)
          have e3 : IntKind.i64.wrap ((n : Int) * (c : Int)) = (P2 : Int) := by
            rw [← Int.natCast_mul, ← hP2]
            exact IntWalk.i64_in _ (by omega)
          have e4 : IntKind.i64.wrap ((P2 : Int) + (j : Int)) = ((P2 + j : Nat) : Int) := by rw [← Int.natCast_add]; exact IntWalk.i64_in _ (by omega)
          have c01 := (G.behind hB).cell (i := 1) rfl
          have c02 := (G.behind hB).cell (i := 2) rfl
          have hgt : (g : Int) + (t : Int) ≤ 63 := by omega
          have hlt2 : (g : Int) + (t : Int) < (r : Int) := by omega
          have n1 := not_top (HXL.out (P + j))
          have n2 := not_top (HXL.out (P2 + j))
          have m1 : lim xs (P + j) % 9223372036854775808 = mag (lim xs (P + j)) := rfl
          have m2 : lim xs (P2 + j) % 9223372036854775808 = mag (lim xs (P2 + j)) := rfl
          rw [m1] at n1
          rw [m2] at n2
          generalize lim xs (P + j) = x at *
          generalize lim xs (P2 + j) = y at *
          generalize mag x = mx at *
          generalize mag y = my at *
          generalize hQ : P + j = Q at *
          generalize hQ2 : P2 + j = Q2 at *
          have hQm : (Q : Int) < (m : Int) := by omega
          have hQm2 : (Q2 : Int) < (m : Int) := by omega
          have hway : Hid (mx < my ∨ (mx = my ∧ n ≤ g + t)) := Lib.hid (by
            rcases Nat.lt_or_ge mx my with h | h
            · exact .inl h
            · right
              have e := Nat.le_antisymm bs1 h
              have := bs2 e
              have := HGB.out
              exact ⟨e, by omega⟩)
          clear hP hP2 hrc hmn hpt hpb hQ hQ2 bs1 bs2 m1 m2
          rcases hway.out with h1 | ⟨h1, h2⟩
          · have d1 : decide ((my : Int) < (mx : Int)) = false := decide_eq_false (by omega)
            have d2 : ((mx : Int) == (my : Int)) = false := beq_eq_false_iff_ne.2 (by omega)
            have d3 : decide (my < mx) = false := decide_eq_false (by omega)
            have d4 : (mx == my) = false := beq_eq_false_iff_ne.2 (by omega)
            clear h1 hway
            go_wp2
            go_quiet (fail)
            go_wp2
            exact ⟨⟨t + 1, by omega, by simp; omega, below_both hB (below_drewN _ _ _)⟩, by simp [intOf]; omega⟩
          · subst h1
            have d1 : decide ((mx : Int) < (mx : Int)) = false := decide_eq_false (by omega)
            have d2 : ((mx : Int) == (mx : Int)) = true := by simp
            have d3 : decide ((g : Int) + (t : Int) < (n : Int)) = false := decide_eq_false (by omega)
            clear h2 hway
            go_wp2
            go_quiet (fail)
            go_wp2
            exact ⟨⟨t + 1, by omega, by simp; omega, below_both hB (below_drewN _ _ _)⟩, by simp [intOf]; omega⟩
        · obtain rfl : r = g + t := by omega
          have hgn : (g : Int) ≤ (n : Int) := by have := HGB.out; omega
          have hn2 : (n : Int) < (g : Int) + (t : Int) := by omega
          clear hlt
          go_wp2
          go_ret
          exact ⟨rfl, below_both B hB⟩
    · have d : (finM R C m xs != 0) = true := bne_iff_ne.2 hFM
      clear hA hE hFM
      generalize finM R C m xs = E at *
      generalize pivR xs R C m col f = RR at *
      go_enter Try.func3, Try.ntmps3
      go_wp2_with fail
      generalize w.alloc (.cells #[.int .i64 R, .int .i64 C, .slice a m cap] 24) = W0 at *
      refine (hal _).mono ?_
      rintro e w1 ⟨rfl, b1⟩
      replace B := below_both B b1
      replace G := G.behind b1
      have c00 := G.cell (i := 0) rfl
      have c01 := G.cell (i := 1) rfl
      have c02 := G.cell (i := 2) rfl
      go_wp2_with fail
      refine (HS.out _ B).mono ?_
      rintro e w2 ⟨rfl, b2⟩
      replace B := below_both B b2
      have c00 := (G.behind b2).cell (i := 0) rfl
      have c01 := (G.behind b2).cell (i := 1) rfl
      have c02 := (G.behind b2).cell (i := 2) rfl
      go_wp2_with fail
      refine (HF.out _ B).mono ?_
      rintro e w3 ⟨rfl, b3⟩
      go_wp2
      go_ret
      exact ⟨rfl, below_both B b3⟩
  · have d : (pivE R C m col f != 0) = true := bne_iff_ne.2 hE
    clear hA hE
    generalize pivE R C m col f = E at *
    generalize pivR xs R C m col f = RR at *
    go_enter Try.func3, Try.ntmps3
    go_wp2_with fail
    generalize w.alloc (.cells #[.int .i64 R, .int .i64 C, .slice a m cap] 24) = W0 at *
    refine (hal _).mono ?_
    rintro e w1 ⟨rfl, b1⟩
    replace B := below_both B b1
    have c00 := (G.behind b1).cell (i := 0) rfl
    have c01 := (G.behind b1).cell (i := 1) rfl
    have c02 := (G.behind b1).cell (i := 2) rfl
    go_wp2_with fail
    refine (HS.out _ B).mono ?_
    rintro e w2 ⟨rfl, b2⟩
    go_wp2
    go_ret
    exact ⟨rfl, below_both B b2⟩
end Go.Proofs.Ytgppbimbampenab
