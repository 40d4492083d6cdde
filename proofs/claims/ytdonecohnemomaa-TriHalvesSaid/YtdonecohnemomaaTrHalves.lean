/- vernierlaw22: TriHalves, walked. -/
import Derived.Test.YtdonecohnemomaaTrSld
namespace Go.Proofs.Ytdonecohnemomaa
open Go.RowKit Go.Shelf
theorem half_at {R C k : Nat} {up un : Bool} {xs : List Nat} (hk : k < R * C) : lim (halfK R C up un xs (R * C)) k = hvN C up un xs k := by
  unfold halfK
  rw [upd_at (by rw [tab_length]; exact hk), if_pos hk]
theorem half_length {R C : Nat} {up un : Bool} {xs : List Nat} : (halfK R C up un xs (R * C)).length = R * C := by
  unfold halfK
  rw [upd_length, tab_length]
theorem hvN_lt {C k : Nat} {up un : Bool} {xs : List Nat} (hx : Low 18446744073709551616 xs) : hvN C up un xs k < 18446744073709551616 := by
  unfold hvN
  split
  · decide
  · split
    · exact lim_lt_low hx _
    · decide
theorem half_low {R C : Nat} {up un : Bool} {xs : List Nat} (hx : Low 18446744073709551616 xs) : Low 18446744073709551616 (halfK R C up un xs (R * C)) := by
  intro y hy
  obtain ⟨k, hk, rfl⟩ := List.getElem_of_mem hy
  rw [half_length] at hk
  have h := half_at (up := up) (un := un) (xs := xs) hk
  unfold lim at h
  rw [List.getElem?_eq_getElem (by rw [half_length]; exact hk), Option.getD_some] at h
  rw [h]
  exact hvN_lt hx
theorem half_all {R C : Nat} {up un : Bool} {xs : List Nat} : ∀ k, k ≤ R * C → allB C up (halfK R C up un xs (R * C)) k = true := by
  intro k
  induction k with
  | zero => intro _; rfl
  | succ k ih =>
    intro hk
    unfold allB
    rw [ih (by omega), Bool.true_and]
    unfold okB
    rw [half_at (by omega)]
    unfold hvN
    cases hc : cntB up (k / C) (k % C)
    · rw [Bool.false_or, if_neg, if_neg (by decide)]
      · decide
      · rintro ⟨_, h⟩
        unfold cntB at hc
        rw [h] at hc
        cases up <;> simp at hc
    · rfl
theorem half_is {R C : Nat} {m : Nat} {up un : Bool} {xs : List Nat} (hm : mayM R C m = true) : isB R C m up (halfK R C up un xs (R * C)) = true := by
  unfold isB
  rw [hm, Bool.true_and, Int.toNat_natCast, Int.toNat_natCast]
  exact half_all _ (Nat.le_refl _)
set_option maxRecDepth 100000 in
set_option maxHeartbeats 16000000 in
theorem triHalves_calls {R C : Int} {up un : Bool} {a : Option Addr} {m cap : Nat} {xs : List Nat} {w : World} (hA : Arg w (.slice a m cap) xs) (hx : Low 18446744073709551616 xs) :
    Calls Try.prog 6 #[.agg #[.int .i64 R, .int .i64 C, .slice a m cap], .bool up, .bool un] w fun e W' => e = .returned (.bool true) ∧ Below w.heap.size w W' := by
  have hmx : m = xs.length := by
    obtain ⟨a', c', e⟩ := hA.slice
    simp only [Value.slice.injEq] at e
    omega
  obtain ⟨B0, G1⟩ := mbox w #[.int .i64 R, .int .i64 C, .slice a m cap] 24 _ rfl
  have HH := Lib.hid (fun W (h : Below w.heap.size w W) => tri_half (R := R) (C := C) (up := up) (un := un) (hA.behind h))
  have HI := Lib.hid (fun W (h : Below w.heap.size w W) => tri_is (R := R) (C := C) (up := up) (hA.behind h) hx)
  have HCH := Lib.hid (fun w => shape_check (a := a) (m := m) (cap := cap) (R := R) (C := C) (w := w))
  have c0 := G1.cell (i := 0) rfl
  have c1 := G1.cell (i := 1) rfl
  have c2 := G1.cell (i := 2) rfl
  cases hm : mayM R C m
  · rw [show chkM R C m = 11 by unfold chkM; rw [hm]; rfl] at HCH
    rw [hm] at HH
    rw [show isB R C m up xs = false by unfold isB; rw [hm]; rfl] at HI
    clear hA hx hm hmx
    go_enter Try.func6, Try.ntmps6
    go_wp2_with fail
    generalize w.alloc (.cells #[.int .i64 R, .int .i64 C, .slice a m cap] 24) = W0 at *
    refine (l22_alive _).mono ?_
    rintro e w1 ⟨rfl, b1⟩
    replace B0 := below_both B0 b1
    replace G1 := G1.behind b1
    clear c0 c1 c2 b1
    have c0 := G1.cell (i := 0) rfl
    have c1 := G1.cell (i := 1) rfl
    have c2 := G1.cell (i := 2) rfl
    go_wp2_with fail
    refine (HH.out _ B0).mono ?_
    rintro e w2 ⟨R3, C3, b3, n3, c3, rfl, hN, -, hb2⟩
    obtain ⟨k3, G3⟩ := mbox w2 #[.int .i64 R3, .int .i64 C3, .slice b3 n3 c3] 24 _ rfl
    have hn3 : n3 = 0 := by
      obtain ⟨a', c', e⟩ := hN.arg.slice
      simp only [Value.slice.injEq] at e
      exact e.2.1
    subst hn3
    replace B0 := below_both (below_both B0 hb2) k3
    replace G1 := (G1.behind hb2).behind k3
    clear c0 c1 c2 hb2 k3 hN
    have c0 := G1.cell (i := 0) rfl
    have c1 := G1.cell (i := 1) rfl
    have c2 := G1.cell (i := 2) rfl
    go_wp2_with fail
    generalize w2.alloc (.cells #[.int .i64 R3, .int .i64 C3, .slice b3 0 c3] 24) = w3 at *
    refine (HCH.out _).mono ?_
    rintro e w4 ⟨rfl, b4⟩
    replace B0 := below_both B0 b4
    replace G1 := G1.behind b4
    replace G3 := G3.behind b4
    clear c0 c1 c2 b4
    have c0 := G1.cell (i := 0) rfl
    have c1 := G1.cell (i := 1) rfl
    have c2 := G1.cell (i := 2) rfl
    have g2 := G3.cell (i := 2) rfl
    go_wp2_with fail
    refine (HI.out _ B0).mono ?_
    rintro e w5 ⟨rfl, b5⟩
    have HX := Lib.hid (below_both B0 b5)
    clear b5
    go_wp2
    go_ret
    exact ⟨rfl, HX.out⟩
  · obtain ⟨p1, p2, p3, p4, p5⟩ := mayM_iff.1 hm
    obtain ⟨r, rfl⟩ := Int.eq_ofNat_of_zero_le (show 0 ≤ R by omega)
    obtain ⟨c, rfl⟩ := Int.eq_ofNat_of_zero_le (show 0 ≤ C by omega)
    have hmn : m = r * c := by rw [← Int.natCast_mul] at p5; omega
    have hrc : r * c ≤ 64 * 64 := Nat.mul_le_mul (by omega) (by omega)
    have hrc0 : 0 < r * c := Nat.mul_pos (by omega) (by omega)
    obtain ⟨S, off, cp, e, HX⟩ := tri_at hA (by omega)
    simp only [Value.slice.injEq] at e
    obtain ⟨rfl, -, rfl⟩ := e
    rw [show chkM (r : Int) (c : Int) m = 0 by unfold chkM; rw [hm]; rfl] at HCH
    rw [hm, if_pos rfl, if_pos rfl, Int.toNat_natCast, Int.toNat_natCast] at HH
    rw [show isB (r : Int) (c : Int) m up xs = allB c up xs (r * c) by unfold isB; rw [hm, Bool.true_and, Int.toNat_natCast, Int.toNat_natCast]] at HI
    obtain ⟨Hf, hHf⟩ : ∃ h, h = halfK r c up un xs (r * c) := ⟨_, rfl⟩
    rw [← hHf] at HH
    have HHF : Hid (Hf.length = m ∧ Low 18446744073709551616 Hf ∧ isB (r : Int) (c : Int) m up Hf = true ∧ (zn Hf).length = m) := Lib.hid (by
      rw [zn_length, hHf, half_length]
      exact ⟨hmn.symm, half_low hx, half_is hm, hmn.symm⟩)
    obtain ⟨AB, hAB⟩ : ∃ f, f = allB c up xs := ⟨_, rfl⟩
    rw [← hAB] at HI
    have HD : Hid (∀ i j, i < r → j < c → ∃ x y P Q : Nat, IntKind.i64.wrap ((i : Int) * (c : Int)) = (Q : Int) ∧ IntKind.i64.wrap ((Q : Int) + (j : Int)) = (P : Int) ∧ P = i * c + j ∧ P < m ∧ (x : Int) ≤ 18446744073709551615 ∧ (∀ W, Below w.heap.size w W → W.cell? ⟨S, off + P, none⟩ = some (.int .u64 (x : Int))) ∧ zat (zn Hf) P = (y : Int) ∧ y = (if un = true ∧ i = j then 4607182418800017408 else if cntB up i j = true then x else 0) ∧ AB (P + 1) = (AB P && (cntB up i j || decide (cls x = 0)))) := Lib.hid (fun i j hi hj => by
      have a1 := Nat.mul_le_mul_right c (show i + 1 ≤ r by omega)
      rw [Nat.add_mul, Nat.one_mul] at a1
      have hlo : lim xs (i * c + j) < 18446744073709551616 := lim_lt_low hx _
      have d1 : (i * c + j) / c = i := by rw [Nat.mul_comm, Nat.mul_add_div (by omega), Nat.div_eq_of_lt hj, Nat.add_zero]
      have d2 : (i * c + j) % c = j := by rw [Nat.mul_comm, Nat.mul_add_mod, Nat.mod_eq_of_lt hj]
      refine ⟨lim xs (i * c + j), hvN c up un xs (i * c + j), i * c + j, i * c, by rw [← Int.natCast_mul]; exact IntWalk.i64_in _ (by omega), by rw [← Int.natCast_add]; exact IntWalk.i64_in _ (by omega), rfl, by omega, by omega, fun W h => HX.out W h _ (by omega), ?_, ?_, ?_⟩
      · rw [zn_at (by have := HHF.out.1; omega), hHf, half_at (by omega)]
      · unfold hvN; rw [d1, d2]
      · rw [hAB]
        show (allB c up xs (i * c + j) && okB c up xs (i * c + j)) = _
        unfold okB
        rw [d1, d2])
    have HA0 : Hid (AB (0 * c) = true) := Lib.hid (by rw [hAB, Nat.zero_mul]; rfl)
    have hr64 : (r : Int) ≤ 64 := by omega
    have hc64 : (c : Int) ≤ 64 := by omega
    have HM := Lib.hid hm
    clear hA hx hm hmx p1 p2 p3 p4 p5 hmn hrc hrc0 HX hHf hAB
    go_enter Try.func6, Try.ntmps6
    go_wp2_with fail
    generalize w.alloc (.cells #[.int .i64 (r : Int), .int .i64 (c : Int), .slice (some ⟨S, off, none⟩) m cap] 24) = W0 at *
    refine (l22_alive _).mono ?_
    rintro e w1 ⟨rfl, b1⟩
    replace B0 := below_both B0 b1
    replace G1 := G1.behind b1
    clear c0 c1 c2 b1
    have c0 := G1.cell (i := 0) rfl
    have c1 := G1.cell (i := 1) rfl
    have c2 := G1.cell (i := 2) rfl
    go_wp2_with fail
    refine (HH.out _ B0).mono ?_
    rintro e w2 ⟨R3, C3, b3, n3, c3, rfl, hN, h33, hb2⟩
    obtain ⟨rfl, rfl⟩ := h33 trivial
    obtain ⟨T3, a3, c3', hT3, ev, -, HV⟩ := (new_zn.1 hN).opened
    simp only [Value.slice.injEq] at ev
    obtain ⟨rfl, rfl, rfl⟩ := ev
    rw [HHF.out.2.2.2] at hN ⊢
    obtain ⟨k3, G3⟩ := mbox w2 #[.int .i64 (r : Int), .int .i64 (c : Int), .slice b3 m c3] 24 _ rfl
    replace B0 := below_both (below_both B0 hb2) k3
    replace G1 := (G1.behind hb2).behind k3
    have HN3 := Lib.hid (hN.arg.behind k3)
    have HV3 : Hid (∀ W, Below (w2.alloc (.cells #[.int .i64 (r : Int), .int .i64 (c : Int), .slice b3 m c3] 24)).heap.size (w2.alloc (.cells #[.int .i64 (r : Int), .int .i64 (c : Int), .slice b3 m c3] 24)) W → ∀ k, k < m → ∃ off, b3 = some ⟨T3, off, none⟩ ∧ W.cell? ⟨T3, off + k, none⟩ = some (.int .u64 (zat (zn Hf) k))) := Lib.hid (fun W h k hk => HV.out W ((h.block T3 (by rw [World.size_alloc]; omega)).trans (k3.block T3 hT3)) k (by rw [HHF.out.2.2.2]; exact hk))
    clear c0 c1 c2 hb2 k3 hN HV hT3
    have c0 := G1.cell (i := 0) rfl
    have c1 := G1.cell (i := 1) rfl
    have c2 := G1.cell (i := 2) rfl
    go_wp2_with fail
    generalize w2.alloc (.cells #[.int .i64 (r : Int), .int .i64 (c : Int), .slice b3 m c3] 24) = w3 at *
    refine (HCH.out _).mono ?_
    rintro e w4 ⟨rfl, b4⟩
    replace B0 := below_both B0 b4
    replace G1 := G1.behind b4
    replace G3 := G3.behind b4
    have HN4 := Lib.hid (HN3.out.behind b4)
    have HV4 := Lib.hid (fun W (h : Below w4.heap.size w4 W) => HV3.out W (below_both b4 h))
    clear c0 c1 c2 b4 HV3 HN3
    have c0 := G1.cell (i := 0) rfl
    have c1 := G1.cell (i := 1) rfl
    go_wp2
    go_loopw [9, 10] (fun v i wr => ∃ k : Nat, k ≤ r ∧ i = .int .i64 k ∧ v = .bool (AB (k * c)) ∧ Below w4.heap.size w4 wr) (fun _ i _ => r - (intOf i).toNat)
    case atStart => exact ⟨0, Nat.zero_le _, rfl, by rw [HA0.out], Below.refl _ _⟩
    case round =>
      clear c0 c1
      obtain ⟨i, hi, rfl, rfl, hB⟩ := hrel
      have c0 := (G1.behind hB).cell (i := 0) rfl
      have c1 := (G1.behind hB).cell (i := 1) rfl
      have c2 := (G1.behind hB).cell (i := 2) rfl
      by_cases hlt : i < r
      · have q : decide ((i : Int) < (r : Int)) = true := decide_eq_true (by omega)
        obtain ⟨w5, rfl⟩ : ∃ wo, wo = wr := ⟨_, rfl⟩
        obtain ⟨A0, hA0⟩ : ∃ b, b = AB (i * c) := ⟨_, rfl⟩
        have HA1 := Lib.hid hA0
        have HB5 := Lib.hid hB
        rw [← hA0]
        clear hA0
        go_wp2
        go_loopw [9, 11] (fun v q wv => ∃ j : Nat, j ≤ c ∧ q = .int .i64 j ∧ v = .bool (AB (i * c + j)) ∧ Below w5.heap.size w5 wv) (fun _ q _ => c - (intOf q).toNat)
        case atStart => exact ⟨0, Nat.zero_le _, rfl, by rw [Nat.add_zero, HA1.out], Below.refl _ _⟩
        case round =>
          clear c0 c1 c2
          obtain ⟨j, hj, rfl, rfl, hB2⟩ := hrel
          have hBr := below_both HB5.out hB2
          have hBw := below_both B0 hBr
          have c0 := (G1.behind hBr).cell (i := 0) rfl
          have c1 := (G1.behind hBr).cell (i := 1) rfl
          have c2 := (G1.behind hBr).cell (i := 2) rfl
          have g2 := (G3.behind hBr).cell (i := 2) rfl
          by_cases hlt2 : j < c
          · have q2 : decide ((j : Int) < (c : Int)) = true := decide_eq_true (by omega)
            obtain ⟨x, y, P, Q, e1, e2, e3, e4, e5, e6, e7, e8, e9⟩ := HD.out i j hlt hlt2
            obtain ⟨o3, rfl, kh⟩ := HV4.out wr hBr P e4
            rw [e7] at kh
            have kx := e6 _ hBw
            have hcl := fun W => class6 (a := x) (W := W) e5
            obtain ⟨A0, hA0⟩ : ∃ b, b = AB (i * c + j) := ⟨_, rfl⟩
            obtain ⟨A1, hA1⟩ : ∃ b, b = AB (i * c + j + 1) := ⟨_, rfl⟩
            rw [e3, ← hA0, ← hA1] at e9
            have HA2 : Hid (AB (i * c + (j + 1)) = A1) := Lib.hid (by rw [hA1, Nat.add_assoc])
            rw [← hA0]
            generalize cls x = cx at *
            clear hA0 hA1 e3 e6 e7 HCH HH HI
            cases up
            · rcases Nat.lt_trichotomy i j with hij | hij | hij
              · cases un
                · cases A0
                  · as_aux_lemma =>
                    have hcn : cntB false i j = false := by unfold cntB; first | (rw [if_pos rfl]; first | exact decide_eq_true (by omega) | exact decide_eq_false (by omega)) | (rw [if_neg (by decide)]; first | exact decide_eq_true (by omega) | exact decide_eq_false (by omega))
                    have hy : y = 0 := by rw [e8, if_neg (by rintro ⟨h1, h2⟩; first | omega | cases h1), hcn, if_neg (by decide)]
                    have ha : A1 = false := by rw [e9]; rfl
                    have HA3 := Lib.hid ha
                    clear e8 e9 hcn ha
                    subst hy
                    have q3 : decide ((j : Int) ≤ (i : Int)) = false := decide_eq_false (by omega)
                    have q4 : decide ((i : Int) ≤ (j : Int)) = true := decide_eq_true (by omega)
                    have q5 : ((i : Int) == (j : Int)) = false := by simp; omega
                    have q6 : ¬ j ≤ i := by omega
                    have q7 : i ≤ j := by omega
                    have q8 : ¬ i = j := by omega
                    clear hij
                    go_wp2
                    exact ⟨⟨j + 1, by omega, by simp, by rw [HA2.out, HA3.out], hB2⟩, by simp [intOf]; omega⟩
                  · by_cases hcx : cx = 0
                    · as_aux_lemma =>
                      have hcn : cntB false i j = false := by unfold cntB; first | (rw [if_pos rfl]; first | exact decide_eq_true (by omega) | exact decide_eq_false (by omega)) | (rw [if_neg (by decide)]; first | exact decide_eq_true (by omega) | exact decide_eq_false (by omega))
                      have hy : y = 0 := by rw [e8, if_neg (by rintro ⟨h1, h2⟩; first | omega | cases h1), hcn, if_neg (by decide)]
                      have ha : A1 = true := by rw [e9, hcn, decide_eq_true hcx]; rfl
                      have HA3 := Lib.hid ha
                      clear e8 e9 hcn ha
                      subst hy
                      have q3 : decide ((j : Int) ≤ (i : Int)) = false := decide_eq_false (by omega)
                      have q4 : decide ((i : Int) ≤ (j : Int)) = true := decide_eq_true (by omega)
                      have q5 : ((i : Int) == (j : Int)) = false := by simp; omega
                      have q6 : ¬ j ≤ i := by omega
                      have q7 : i ≤ j := by omega
                      have q8 : ¬ i = j := by omega
                      clear hij
                      subst hcx
                      go_wp2_with fail
                      refine (hcl _).mono ?_
                      rintro e w6 ⟨rfl, rfl⟩
                      go_wp2
                      exact ⟨⟨j + 1, by omega, by simp, by rw [HA2.out, HA3.out], hB2⟩, by simp [intOf]; omega⟩
                    · as_aux_lemma =>
                      have hcn : cntB false i j = false := by unfold cntB; first | (rw [if_pos rfl]; first | exact decide_eq_true (by omega) | exact decide_eq_false (by omega)) | (rw [if_neg (by decide)]; first | exact decide_eq_true (by omega) | exact decide_eq_false (by omega))
                      have hy : y = 0 := by rw [e8, if_neg (by rintro ⟨h1, h2⟩; first | omega | cases h1), hcn, if_neg (by decide)]
                      have ha : A1 = false := by rw [e9, hcn, decide_eq_false hcx]; rfl
                      have HA3 := Lib.hid ha
                      clear e8 e9 hcn ha
                      subst hy
                      have q3 : decide ((j : Int) ≤ (i : Int)) = false := decide_eq_false (by omega)
                      have q4 : decide ((i : Int) ≤ (j : Int)) = true := decide_eq_true (by omega)
                      have q5 : ((i : Int) == (j : Int)) = false := by simp; omega
                      have q6 : ¬ j ≤ i := by omega
                      have q7 : i ≤ j := by omega
                      have q8 : ¬ i = j := by omega
                      clear hij
                      have q9 : ((cx : Int) == 0) = false := by simp; omega
                      go_wp2_with fail
                      refine (hcl _).mono ?_
                      rintro e w6 ⟨rfl, rfl⟩
                      go_wp2
                      exact ⟨⟨j + 1, by omega, by simp, by rw [HA2.out, HA3.out], hB2⟩, by simp [intOf]; omega⟩
                · cases A0
                  · as_aux_lemma =>
                    have hcn : cntB false i j = false := by unfold cntB; first | (rw [if_pos rfl]; first | exact decide_eq_true (by omega) | exact decide_eq_false (by omega)) | (rw [if_neg (by decide)]; first | exact decide_eq_true (by omega) | exact decide_eq_false (by omega))
                    have hy : y = 0 := by rw [e8, if_neg (by rintro ⟨h1, h2⟩; first | omega | cases h1), hcn, if_neg (by decide)]
                    have ha : A1 = false := by rw [e9]; rfl
                    have HA3 := Lib.hid ha
                    clear e8 e9 hcn ha
                    subst hy
                    have q3 : decide ((j : Int) ≤ (i : Int)) = false := decide_eq_false (by omega)
                    have q4 : decide ((i : Int) ≤ (j : Int)) = true := decide_eq_true (by omega)
                    have q5 : ((i : Int) == (j : Int)) = false := by simp; omega
                    have q6 : ¬ j ≤ i := by omega
                    have q7 : i ≤ j := by omega
                    have q8 : ¬ i = j := by omega
                    clear hij
                    go_wp2
                    exact ⟨⟨j + 1, by omega, by simp, by rw [HA2.out, HA3.out], hB2⟩, by simp [intOf]; omega⟩
                  · by_cases hcx : cx = 0
                    · as_aux_lemma =>
                      have hcn : cntB false i j = false := by unfold cntB; first | (rw [if_pos rfl]; first | exact decide_eq_true (by omega) | exact decide_eq_false (by omega)) | (rw [if_neg (by decide)]; first | exact decide_eq_true (by omega) | exact decide_eq_false (by omega))
                      have hy : y = 0 := by rw [e8, if_neg (by rintro ⟨h1, h2⟩; first | omega | cases h1), hcn, if_neg (by decide)]
                      have ha : A1 = true := by rw [e9, hcn, decide_eq_true hcx]; rfl
                      have HA3 := Lib.hid ha
                      clear e8 e9 hcn ha
                      subst hy
                      have q3 : decide ((j : Int) ≤ (i : Int)) = false := decide_eq_false (by omega)
                      have q4 : decide ((i : Int) ≤ (j : Int)) = true := decide_eq_true (by omega)
                      have q5 : ((i : Int) == (j : Int)) = false := by simp; omega
                      have q6 : ¬ j ≤ i := by omega
                      have q7 : i ≤ j := by omega
                      have q8 : ¬ i = j := by omega
                      clear hij
                      subst hcx
                      go_wp2_with fail
                      refine (hcl _).mono ?_
                      rintro e w6 ⟨rfl, rfl⟩
                      go_wp2
                      exact ⟨⟨j + 1, by omega, by simp, by rw [HA2.out, HA3.out], hB2⟩, by simp [intOf]; omega⟩
                    · as_aux_lemma =>
                      have hcn : cntB false i j = false := by unfold cntB; first | (rw [if_pos rfl]; first | exact decide_eq_true (by omega) | exact decide_eq_false (by omega)) | (rw [if_neg (by decide)]; first | exact decide_eq_true (by omega) | exact decide_eq_false (by omega))
                      have hy : y = 0 := by rw [e8, if_neg (by rintro ⟨h1, h2⟩; first | omega | cases h1), hcn, if_neg (by decide)]
                      have ha : A1 = false := by rw [e9, hcn, decide_eq_false hcx]; rfl
                      have HA3 := Lib.hid ha
                      clear e8 e9 hcn ha
                      subst hy
                      have q3 : decide ((j : Int) ≤ (i : Int)) = false := decide_eq_false (by omega)
                      have q4 : decide ((i : Int) ≤ (j : Int)) = true := decide_eq_true (by omega)
                      have q5 : ((i : Int) == (j : Int)) = false := by simp; omega
                      have q6 : ¬ j ≤ i := by omega
                      have q7 : i ≤ j := by omega
                      have q8 : ¬ i = j := by omega
                      clear hij
                      have q9 : ((cx : Int) == 0) = false := by simp; omega
                      go_wp2_with fail
                      refine (hcl _).mono ?_
                      rintro e w6 ⟨rfl, rfl⟩
                      go_wp2
                      exact ⟨⟨j + 1, by omega, by simp, by rw [HA2.out, HA3.out], hB2⟩, by simp [intOf]; omega⟩
              · cases un
                · cases A0
                  · as_aux_lemma =>
                    have hcn : cntB false i j = true := by unfold cntB; first | (rw [if_pos rfl]; first | exact decide_eq_true (by omega) | exact decide_eq_false (by omega)) | (rw [if_neg (by decide)]; first | exact decide_eq_true (by omega) | exact decide_eq_false (by omega))
                    have hy : y = x := by rw [e8, if_neg (by rintro ⟨h1, h2⟩; first | omega | cases h1), hcn, if_pos rfl]
                    have ha : A1 = false := by rw [e9]; rfl
                    have HA3 := Lib.hid ha
                    clear e8 e9 hcn ha
                    subst hy
                    subst hij
                    go_wp2
                    exact ⟨⟨i + 1, by omega, by simp, by rw [HA2.out, HA3.out], hB2⟩, by simp [intOf]; omega⟩
                  · as_aux_lemma =>
                    have hcn : cntB false i j = true := by unfold cntB; first | (rw [if_pos rfl]; first | exact decide_eq_true (by omega) | exact decide_eq_false (by omega)) | (rw [if_neg (by decide)]; first | exact decide_eq_true (by omega) | exact decide_eq_false (by omega))
                    have hy : y = x := by rw [e8, if_neg (by rintro ⟨h1, h2⟩; first | omega | cases h1), hcn, if_pos rfl]
                    have ha : A1 = true := by rw [e9, hcn]; rfl
                    have HA3 := Lib.hid ha
                    clear e8 e9 hcn ha
                    subst hy
                    subst hij
                    go_wp2
                    exact ⟨⟨i + 1, by omega, by simp, by rw [HA2.out, HA3.out], hB2⟩, by simp [intOf]; omega⟩
                · cases A0
                  · as_aux_lemma =>
                    have hcn : cntB false i j = true := by unfold cntB; first | (rw [if_pos rfl]; first | exact decide_eq_true (by omega) | exact decide_eq_false (by omega)) | (rw [if_neg (by decide)]; first | exact decide_eq_true (by omega) | exact decide_eq_false (by omega))
                    have hy : y = 4607182418800017408 := by rw [e8, if_pos ⟨rfl, hij⟩]
                    have ha : A1 = false := by rw [e9]; rfl
                    have HA3 := Lib.hid ha
                    clear e8 e9 hcn ha
                    subst hy
                    subst hij
                    go_wp2
                    exact ⟨⟨i + 1, by omega, by simp, by rw [HA2.out, HA3.out], hB2⟩, by simp [intOf]; omega⟩
                  · as_aux_lemma =>
                    have hcn : cntB false i j = true := by unfold cntB; first | (rw [if_pos rfl]; first | exact decide_eq_true (by omega) | exact decide_eq_false (by omega)) | (rw [if_neg (by decide)]; first | exact decide_eq_true (by omega) | exact decide_eq_false (by omega))
                    have hy : y = 4607182418800017408 := by rw [e8, if_pos ⟨rfl, hij⟩]
                    have ha : A1 = true := by rw [e9, hcn]; rfl
                    have HA3 := Lib.hid ha
                    clear e8 e9 hcn ha
                    subst hy
                    subst hij
                    go_wp2
                    exact ⟨⟨i + 1, by omega, by simp, by rw [HA2.out, HA3.out], hB2⟩, by simp [intOf]; omega⟩
              · cases un
                · cases A0
                  · as_aux_lemma =>
                    have hcn : cntB false i j = true := by unfold cntB; first | (rw [if_pos rfl]; first | exact decide_eq_true (by omega) | exact decide_eq_false (by omega)) | (rw [if_neg (by decide)]; first | exact decide_eq_true (by omega) | exact decide_eq_false (by omega))
                    have hy : y = x := by rw [e8, if_neg (by rintro ⟨h1, h2⟩; first | omega | cases h1), hcn, if_pos rfl]
                    have ha : A1 = false := by rw [e9]; rfl
                    have HA3 := Lib.hid ha
                    clear e8 e9 hcn ha
                    subst hy
                    have q3 : decide ((j : Int) ≤ (i : Int)) = true := decide_eq_true (by omega)
                    have q4 : decide ((i : Int) ≤ (j : Int)) = false := decide_eq_false (by omega)
                    have q5 : ((i : Int) == (j : Int)) = false := by simp; omega
                    have q6 : j ≤ i := by omega
                    have q7 : ¬ i ≤ j := by omega
                    have q8 : ¬ i = j := by omega
                    clear hij
                    go_wp2
                    exact ⟨⟨j + 1, by omega, by simp, by rw [HA2.out, HA3.out], hB2⟩, by simp [intOf]; omega⟩
                  · as_aux_lemma =>
                    have hcn : cntB false i j = true := by unfold cntB; first | (rw [if_pos rfl]; first | exact decide_eq_true (by omega) | exact decide_eq_false (by omega)) | (rw [if_neg (by decide)]; first | exact decide_eq_true (by omega) | exact decide_eq_false (by omega))
                    have hy : y = x := by rw [e8, if_neg (by rintro ⟨h1, h2⟩; first | omega | cases h1), hcn, if_pos rfl]
                    have ha : A1 = true := by rw [e9, hcn]; rfl
                    have HA3 := Lib.hid ha
                    clear e8 e9 hcn ha
                    subst hy
                    have q3 : decide ((j : Int) ≤ (i : Int)) = true := decide_eq_true (by omega)
                    have q4 : decide ((i : Int) ≤ (j : Int)) = false := decide_eq_false (by omega)
                    have q5 : ((i : Int) == (j : Int)) = false := by simp; omega
                    have q6 : j ≤ i := by omega
                    have q7 : ¬ i ≤ j := by omega
                    have q8 : ¬ i = j := by omega
                    clear hij
                    go_wp2
                    exact ⟨⟨j + 1, by omega, by simp, by rw [HA2.out, HA3.out], hB2⟩, by simp [intOf]; omega⟩
                · cases A0
                  · as_aux_lemma =>
                    have hcn : cntB false i j = true := by unfold cntB; first | (rw [if_pos rfl]; first | exact decide_eq_true (by omega) | exact decide_eq_false (by omega)) | (rw [if_neg (by decide)]; first | exact decide_eq_true (by omega) | exact decide_eq_false (by omega))
                    have hy : y = x := by rw [e8, if_neg (by rintro ⟨h1, h2⟩; first | omega | cases h1), hcn, if_pos rfl]
                    have ha : A1 = false := by rw [e9]; rfl
                    have HA3 := Lib.hid ha
                    clear e8 e9 hcn ha
                    subst hy
                    have q3 : decide ((j : Int) ≤ (i : Int)) = true := decide_eq_true (by omega)
                    have q4 : decide ((i : Int) ≤ (j : Int)) = false := decide_eq_false (by omega)
                    have q5 : ((i : Int) == (j : Int)) = false := by simp; omega
                    have q6 : j ≤ i := by omega
                    have q7 : ¬ i ≤ j := by omega
                    have q8 : ¬ i = j := by omega
                    clear hij
                    go_wp2
                    exact ⟨⟨j + 1, by omega, by simp, by rw [HA2.out, HA3.out], hB2⟩, by simp [intOf]; omega⟩
                  · as_aux_lemma =>
                    have hcn : cntB false i j = true := by unfold cntB; first | (rw [if_pos rfl]; first | exact decide_eq_true (by omega) | exact decide_eq_false (by omega)) | (rw [if_neg (by decide)]; first | exact decide_eq_true (by omega) | exact decide_eq_false (by omega))
                    have hy : y = x := by rw [e8, if_neg (by rintro ⟨h1, h2⟩; first | omega | cases h1), hcn, if_pos rfl]
                    have ha : A1 = true := by rw [e9, hcn]; rfl
                    have HA3 := Lib.hid ha
                    clear e8 e9 hcn ha
                    subst hy
                    have q3 : decide ((j : Int) ≤ (i : Int)) = true := decide_eq_true (by omega)
                    have q4 : decide ((i : Int) ≤ (j : Int)) = false := decide_eq_false (by omega)
                    have q5 : ((i : Int) == (j : Int)) = false := by simp; omega
                    have q6 : j ≤ i := by omega
                    have q7 : ¬ i ≤ j := by omega
                    have q8 : ¬ i = j := by omega
                    clear hij
                    go_wp2
                    exact ⟨⟨j + 1, by omega, by simp, by rw [HA2.out, HA3.out], hB2⟩, by simp [intOf]; omega⟩
            · rcases Nat.lt_trichotomy i j with hij | hij | hij
              · cases un
                · cases A0
                  · as_aux_lemma =>
                    have hcn : cntB true i j = true := by unfold cntB; first | (rw [if_pos rfl]; first | exact decide_eq_true (by omega) | exact decide_eq_false (by omega)) | (rw [if_neg (by decide)]; first | exact decide_eq_true (by omega) | exact decide_eq_false (by omega))
                    have hy : y = x := by rw [e8, if_neg (by rintro ⟨h1, h2⟩; first | omega | cases h1), hcn, if_pos rfl]
                    have ha : A1 = false := by rw [e9]; rfl
                    have HA3 := Lib.hid ha
                    clear e8 e9 hcn ha
                    subst hy
                    have q3 : decide ((j : Int) ≤ (i : Int)) = false := decide_eq_false (by omega)
                    have q4 : decide ((i : Int) ≤ (j : Int)) = true := decide_eq_true (by omega)
                    have q5 : ((i : Int) == (j : Int)) = false := by simp; omega
                    have q6 : ¬ j ≤ i := by omega
                    have q7 : i ≤ j := by omega
                    have q8 : ¬ i = j := by omega
                    clear hij
                    go_wp2
                    exact ⟨⟨j + 1, by omega, by simp, by rw [HA2.out, HA3.out], hB2⟩, by simp [intOf]; omega⟩
                  · as_aux_lemma =>
                    have hcn : cntB true i j = true := by unfold cntB; first | (rw [if_pos rfl]; first | exact decide_eq_true (by omega) | exact decide_eq_false (by omega)) | (rw [if_neg (by decide)]; first | exact decide_eq_true (by omega) | exact decide_eq_false (by omega))
                    have hy : y = x := by rw [e8, if_neg (by rintro ⟨h1, h2⟩; first | omega | cases h1), hcn, if_pos rfl]
                    have ha : A1 = true := by rw [e9, hcn]; rfl
                    have HA3 := Lib.hid ha
                    clear e8 e9 hcn ha
                    subst hy
                    have q3 : decide ((j : Int) ≤ (i : Int)) = false := decide_eq_false (by omega)
                    have q4 : decide ((i : Int) ≤ (j : Int)) = true := decide_eq_true (by omega)
                    have q5 : ((i : Int) == (j : Int)) = false := by simp; omega
                    have q6 : ¬ j ≤ i := by omega
                    have q7 : i ≤ j := by omega
                    have q8 : ¬ i = j := by omega
                    clear hij
                    go_wp2
                    exact ⟨⟨j + 1, by omega, by simp, by rw [HA2.out, HA3.out], hB2⟩, by simp [intOf]; omega⟩
                · cases A0
                  · as_aux_lemma =>
                    have hcn : cntB true i j = true := by unfold cntB; first | (rw [if_pos rfl]; first | exact decide_eq_true (by omega) | exact decide_eq_false (by omega)) | (rw [if_neg (by decide)]; first | exact decide_eq_true (by omega) | exact decide_eq_false (by omega))
                    have hy : y = x := by rw [e8, if_neg (by rintro ⟨h1, h2⟩; first | omega | cases h1), hcn, if_pos rfl]
                    have ha : A1 = false := by rw [e9]; rfl
                    have HA3 := Lib.hid ha
                    clear e8 e9 hcn ha
                    subst hy
                    have q3 : decide ((j : Int) ≤ (i : Int)) = false := decide_eq_false (by omega)
                    have q4 : decide ((i : Int) ≤ (j : Int)) = true := decide_eq_true (by omega)
                    have q5 : ((i : Int) == (j : Int)) = false := by simp; omega
                    have q6 : ¬ j ≤ i := by omega
                    have q7 : i ≤ j := by omega
                    have q8 : ¬ i = j := by omega
                    clear hij
                    go_wp2
                    exact ⟨⟨j + 1, by omega, by simp, by rw [HA2.out, HA3.out], hB2⟩, by simp [intOf]; omega⟩
                  · as_aux_lemma =>
                    have hcn : cntB true i j = true := by unfold cntB; first | (rw [if_pos rfl]; first | exact decide_eq_true (by omega) | exact decide_eq_false (by omega)) | (rw [if_neg (by decide)]; first | exact decide_eq_true (by omega) | exact decide_eq_false (by omega))
                    have hy : y = x := by rw [e8, if_neg (by rintro ⟨h1, h2⟩; first | omega | cases h1), hcn, if_pos rfl]
                    have ha : A1 = true := by rw [e9, hcn]; rfl
                    have HA3 := Lib.hid ha
                    clear e8 e9 hcn ha
                    subst hy
                    have q3 : decide ((j : Int) ≤ (i : Int)) = false := decide_eq_false (by omega)
                    have q4 : decide ((i : Int) ≤ (j : Int)) = true := decide_eq_true (by omega)
                    have q5 : ((i : Int) == (j : Int)) = false := by simp; omega
                    have q6 : ¬ j ≤ i := by omega
                    have q7 : i ≤ j := by omega
                    have q8 : ¬ i = j := by omega
                    clear hij
                    go_wp2
                    exact ⟨⟨j + 1, by omega, by simp, by rw [HA2.out, HA3.out], hB2⟩, by simp [intOf]; omega⟩
              · cases un
                · cases A0
                  · as_aux_lemma =>
                    have hcn : cntB true i j = true := by unfold cntB; first | (rw [if_pos rfl]; first | exact decide_eq_true (by omega) | exact decide_eq_false (by omega)) | (rw [if_neg (by decide)]; first | exact decide_eq_true (by omega) | exact decide_eq_false (by omega))
                    have hy : y = x := by rw [e8, if_neg (by rintro ⟨h1, h2⟩; first | omega | cases h1), hcn, if_pos rfl]
                    have ha : A1 = false := by rw [e9]; rfl
                    have HA3 := Lib.hid ha
                    clear e8 e9 hcn ha
                    subst hy
                    subst hij
                    go_wp2
                    exact ⟨⟨i + 1, by omega, by simp, by rw [HA2.out, HA3.out], hB2⟩, by simp [intOf]; omega⟩
                  · as_aux_lemma =>
                    have hcn : cntB true i j = true := by unfold cntB; first | (rw [if_pos rfl]; first | exact decide_eq_true (by omega) | exact decide_eq_false (by omega)) | (rw [if_neg (by decide)]; first | exact decide_eq_true (by omega) | exact decide_eq_false (by omega))
                    have hy : y = x := by rw [e8, if_neg (by rintro ⟨h1, h2⟩; first | omega | cases h1), hcn, if_pos rfl]
                    have ha : A1 = true := by rw [e9, hcn]; rfl
                    have HA3 := Lib.hid ha
                    clear e8 e9 hcn ha
                    subst hy
                    subst hij
                    go_wp2
                    exact ⟨⟨i + 1, by omega, by simp, by rw [HA2.out, HA3.out], hB2⟩, by simp [intOf]; omega⟩
                · cases A0
                  · as_aux_lemma =>
                    have hcn : cntB true i j = true := by unfold cntB; first | (rw [if_pos rfl]; first | exact decide_eq_true (by omega) | exact decide_eq_false (by omega)) | (rw [if_neg (by decide)]; first | exact decide_eq_true (by omega) | exact decide_eq_false (by omega))
                    have hy : y = 4607182418800017408 := by rw [e8, if_pos ⟨rfl, hij⟩]
                    have ha : A1 = false := by rw [e9]; rfl
                    have HA3 := Lib.hid ha
                    clear e8 e9 hcn ha
                    subst hy
                    subst hij
                    go_wp2
                    exact ⟨⟨i + 1, by omega, by simp, by rw [HA2.out, HA3.out], hB2⟩, by simp [intOf]; omega⟩
                  · as_aux_lemma =>
                    have hcn : cntB true i j = true := by unfold cntB; first | (rw [if_pos rfl]; first | exact decide_eq_true (by omega) | exact decide_eq_false (by omega)) | (rw [if_neg (by decide)]; first | exact decide_eq_true (by omega) | exact decide_eq_false (by omega))
                    have hy : y = 4607182418800017408 := by rw [e8, if_pos ⟨rfl, hij⟩]
                    have ha : A1 = true := by rw [e9, hcn]; rfl
                    have HA3 := Lib.hid ha
                    clear e8 e9 hcn ha
                    subst hy
                    subst hij
                    go_wp2
                    exact ⟨⟨i + 1, by omega, by simp, by rw [HA2.out, HA3.out], hB2⟩, by simp [intOf]; omega⟩
              · cases un
                · cases A0
                  · as_aux_lemma =>
                    have hcn : cntB true i j = false := by unfold cntB; first | (rw [if_pos rfl]; first | exact decide_eq_true (by omega) | exact decide_eq_false (by omega)) | (rw [if_neg (by decide)]; first | exact decide_eq_true (by omega) | exact decide_eq_false (by omega))
                    have hy : y = 0 := by rw [e8, if_neg (by rintro ⟨h1, h2⟩; first | omega | cases h1), hcn, if_neg (by decide)]
                    have ha : A1 = false := by rw [e9]; rfl
                    have HA3 := Lib.hid ha
                    clear e8 e9 hcn ha
                    subst hy
                    have q3 : decide ((j : Int) ≤ (i : Int)) = true := decide_eq_true (by omega)
                    have q4 : decide ((i : Int) ≤ (j : Int)) = false := decide_eq_false (by omega)
                    have q5 : ((i : Int) == (j : Int)) = false := by simp; omega
                    have q6 : j ≤ i := by omega
                    have q7 : ¬ i ≤ j := by omega
                    have q8 : ¬ i = j := by omega
                    clear hij
                    go_wp2
                    exact ⟨⟨j + 1, by omega, by simp, by rw [HA2.out, HA3.out], hB2⟩, by simp [intOf]; omega⟩
                  · by_cases hcx : cx = 0
                    · as_aux_lemma =>
                      have hcn : cntB true i j = false := by unfold cntB; first | (rw [if_pos rfl]; first | exact decide_eq_true (by omega) | exact decide_eq_false (by omega)) | (rw [if_neg (by decide)]; first | exact decide_eq_true (by omega) | exact decide_eq_false (by omega))
                      have hy : y = 0 := by rw [e8, if_neg (by rintro ⟨h1, h2⟩; first | omega | cases h1), hcn, if_neg (by decide)]
                      have ha : A1 = true := by rw [e9, hcn, decide_eq_true hcx]; rfl
                      have HA3 := Lib.hid ha
                      clear e8 e9 hcn ha
                      subst hy
                      have q3 : decide ((j : Int) ≤ (i : Int)) = true := decide_eq_true (by omega)
                      have q4 : decide ((i : Int) ≤ (j : Int)) = false := decide_eq_false (by omega)
                      have q5 : ((i : Int) == (j : Int)) = false := by simp; omega
                      have q6 : j ≤ i := by omega
                      have q7 : ¬ i ≤ j := by omega
                      have q8 : ¬ i = j := by omega
                      clear hij
                      subst hcx
                      go_wp2_with fail
                      refine (hcl _).mono ?_
                      rintro e w6 ⟨rfl, rfl⟩
                      go_wp2
                      exact ⟨⟨j + 1, by omega, by simp, by rw [HA2.out, HA3.out], hB2⟩, by simp [intOf]; omega⟩
                    · as_aux_lemma =>
                      have hcn : cntB true i j = false := by unfold cntB; first | (rw [if_pos rfl]; first | exact decide_eq_true (by omega) | exact decide_eq_false (by omega)) | (rw [if_neg (by decide)]; first | exact decide_eq_true (by omega) | exact decide_eq_false (by omega))
                      have hy : y = 0 := by rw [e8, if_neg (by rintro ⟨h1, h2⟩; first | omega | cases h1), hcn, if_neg (by decide)]
                      have ha : A1 = false := by rw [e9, hcn, decide_eq_false hcx]; rfl
                      have HA3 := Lib.hid ha
                      clear e8 e9 hcn ha
                      subst hy
                      have q3 : decide ((j : Int) ≤ (i : Int)) = true := decide_eq_true (by omega)
                      have q4 : decide ((i : Int) ≤ (j : Int)) = false := decide_eq_false (by omega)
                      have q5 : ((i : Int) == (j : Int)) = false := by simp; omega
                      have q6 : j ≤ i := by omega
                      have q7 : ¬ i ≤ j := by omega
                      have q8 : ¬ i = j := by omega
                      clear hij
                      have q9 : ((cx : Int) == 0) = false := by simp; omega
                      go_wp2_with fail
                      refine (hcl _).mono ?_
                      rintro e w6 ⟨rfl, rfl⟩
                      go_wp2
                      exact ⟨⟨j + 1, by omega, by simp, by rw [HA2.out, HA3.out], hB2⟩, by simp [intOf]; omega⟩
                · cases A0
                  · as_aux_lemma =>
                    have hcn : cntB true i j = false := by unfold cntB; first | (rw [if_pos rfl]; first | exact decide_eq_true (by omega) | exact decide_eq_false (by omega)) | (rw [if_neg (by decide)]; first | exact decide_eq_true (by omega) | exact decide_eq_false (by omega))
                    have hy : y = 0 := by rw [e8, if_neg (by rintro ⟨h1, h2⟩; first | omega | cases h1), hcn, if_neg (by decide)]
                    have ha : A1 = false := by rw [e9]; rfl
                    have HA3 := Lib.hid ha
                    clear e8 e9 hcn ha
                    subst hy
                    have q3 : decide ((j : Int) ≤ (i : Int)) = true := decide_eq_true (by omega)
                    have q4 : decide ((i : Int) ≤ (j : Int)) = false := decide_eq_false (by omega)
                    have q5 : ((i : Int) == (j : Int)) = false := by simp; omega
                    have q6 : j ≤ i := by omega
                    have q7 : ¬ i ≤ j := by omega
                    have q8 : ¬ i = j := by omega
                    clear hij
                    go_wp2
                    exact ⟨⟨j + 1, by omega, by simp, by rw [HA2.out, HA3.out], hB2⟩, by simp [intOf]; omega⟩
                  · by_cases hcx : cx = 0
                    · as_aux_lemma =>
                      have hcn : cntB true i j = false := by unfold cntB; first | (rw [if_pos rfl]; first | exact decide_eq_true (by omega) | exact decide_eq_false (by omega)) | (rw [if_neg (by decide)]; first | exact decide_eq_true (by omega) | exact decide_eq_false (by omega))
                      have hy : y = 0 := by rw [e8, if_neg (by rintro ⟨h1, h2⟩; first | omega | cases h1), hcn, if_neg (by decide)]
                      have ha : A1 = true := by rw [e9, hcn, decide_eq_true hcx]; rfl
                      have HA3 := Lib.hid ha
                      clear e8 e9 hcn ha
                      subst hy
                      have q3 : decide ((j : Int) ≤ (i : Int)) = true := decide_eq_true (by omega)
                      have q4 : decide ((i : Int) ≤ (j : Int)) = false := decide_eq_false (by omega)
                      have q5 : ((i : Int) == (j : Int)) = false := by simp; omega
                      have q6 : j ≤ i := by omega
                      have q7 : ¬ i ≤ j := by omega
                      have q8 : ¬ i = j := by omega
                      clear hij
                      subst hcx
                      go_wp2_with fail
                      refine (hcl _).mono ?_
                      rintro e w6 ⟨rfl, rfl⟩
                      go_wp2
                      exact ⟨⟨j + 1, by omega, by simp, by rw [HA2.out, HA3.out], hB2⟩, by simp [intOf]; omega⟩
                    · as_aux_lemma =>
                      have hcn : cntB true i j = false := by unfold cntB; first | (rw [if_pos rfl]; first | exact decide_eq_true (by omega) | exact decide_eq_false (by omega)) | (rw [if_neg (by decide)]; first | exact decide_eq_true (by omega) | exact decide_eq_false (by omega))
                      have hy : y = 0 := by rw [e8, if_neg (by rintro ⟨h1, h2⟩; first | omega | cases h1), hcn, if_neg (by decide)]
                      have ha : A1 = false := by rw [e9, hcn, decide_eq_false hcx]; rfl
                      have HA3 := Lib.hid ha
                      clear e8 e9 hcn ha
                      subst hy
                      have q3 : decide ((j : Int) ≤ (i : Int)) = true := decide_eq_true (by omega)
                      have q4 : decide ((i : Int) ≤ (j : Int)) = false := decide_eq_false (by omega)
                      have q5 : ((i : Int) == (j : Int)) = false := by simp; omega
                      have q6 : j ≤ i := by omega
                      have q7 : ¬ i ≤ j := by omega
                      have q8 : ¬ i = j := by omega
                      clear hij
                      have q9 : ((cx : Int) == 0) = false := by simp; omega
                      go_wp2_with fail
                      refine (hcl _).mono ?_
                      rintro e w6 ⟨rfl, rfl⟩
                      go_wp2
                      exact ⟨⟨j + 1, by omega, by simp, by rw [HA2.out, HA3.out], hB2⟩, by simp [intOf]; omega⟩
          · obtain rfl : j = c := by omega
            have q2 : decide ((j : Int) < (j : Int)) = false := decide_eq_false (by omega)
            obtain ⟨A0, hA0⟩ : ∃ b, b = AB (i * j + j) := ⟨_, rfl⟩
            have HA2 : Hid (AB ((i + 1) * j) = A0) := Lib.hid (by rw [hA0, Nat.add_mul, Nat.one_mul])
            rw [← hA0]
            clear hA0
            go_wp2
            exact ⟨⟨i + 1, by omega, by simp, by rw [HA2.out], hBr⟩, by simp [intOf]; omega⟩
      · as_aux_lemma =>
        obtain rfl : i = r := by omega
        have q : decide ((i : Int) < (i : Int)) = false := decide_eq_false (by omega)
        have hBw := below_both B0 hB
        have hI2 := tri_is (R := (i : Int)) (C := (c : Int)) (up := up) (HN4.out.behind hB) HHF.out.2.1
        have HI2 := Lib.hid (fun W (h : Below wr.heap.size wr W) => tri_is (R := (i : Int)) (C := (c : Int)) (up := up) ((HN4.out.behind hB).behind h) HHF.out.2.1)
        rw [HHF.out.2.2.1] at HI2
        have HG3 := Lib.hid (G3.behind hB)
        have HB5 := Lib.hid hBw
        generalize AB (i * c) = A0 at *
        clear hI2 hlt hB hBw
        go_wp2_with fail
        refine (HI.out _ HB5.out).mono ?_
        rintro e w5 ⟨rfl, b5⟩
        have g0 := (HG3.out.behind b5).cell (i := 0) rfl
        have g1 := (HG3.out.behind b5).cell (i := 1) rfl
        have g2 := (HG3.out.behind b5).cell (i := 2) rfl
        have q0 : (A0 == A0) = true := by simp
        go_wp2_with fail
        refine (HI2.out _ b5).mono ?_
        rintro e w6 ⟨rfl, b6⟩
        have HX := Lib.hid (below_both HB5.out (below_both b5 b6))
        clear b5 b6
        go_wp2
        go_ret
        exact ⟨rfl, HX.out⟩
end Go.Proofs.Ytdonecohnemomaa

/- vernierlaw22: TriRest, walked. -/
namespace Go.Proofs.Ytdonecohnemomaa
open Go.RowKit Go.Shelf
section
variable {R c : Nat} {up un : Bool} {xs ys : List Nat}
theorem half_keep {i j : Nat} (hi : i < R) (hj : j < R) (hc : cntB up i j = true) (hn : ¬ (un = true ∧ i = j)) : lim (halfK R R up un xs (R * R)) (i * R + j) = lim xs (i * R + j) := by
  have a1 := Nat.mul_le_mul_right R (show i + 1 ≤ R by omega)
  rw [Nat.add_mul, Nat.one_mul] at a1
  have d1 : (i * R + j) / R = i := by rw [Nat.mul_comm, Nat.mul_add_div (by omega), Nat.div_eq_of_lt hj, Nat.add_zero]
  have d2 : (i * R + j) % R = j := by rw [Nat.mul_comm, Nat.mul_add_mod, Nat.mod_eq_of_lt hj]
  rw [half_at (by omega)]
  unfold hvN
  rw [d1, d2, if_neg hn, if_pos hc]
theorem les_half {X : List Nat} {k : Nat} (hk : k < R) : ∀ t, t ≤ k → ∀ j, lesM R c (halfK R R up un xs (R * R)) X (rowI up R k) (fstI up R k) t j = lesM R c xs X (rowI up R k) (fstI up R k) t j := by
  intro t
  induction t with
  | zero => intro _ j; rfl
  | succ t ih =>
    intro ht j
    unfold lesM
    rw [ih (by omega), half_keep (rowI_lt hk) (by unfold fstI; split <;> omega)]
    · unfold cntB rowI fstI
      cases up
      · rw [if_neg (by decide), if_neg (by decide), if_neg (by decide)]; exact decide_eq_true (by omega)
      · rw [if_pos rfl, if_pos rfl, if_pos rfl]; exact decide_eq_true (by omega)
    · rintro ⟨_, h⟩
      unfold rowI fstI at h
      split at h <;> omega
theorem sol_half : ∀ k, k ≤ R → solX up R c (halfK R R up un xs (R * R)) un ys k = solX up R c xs un ys k := by
  intro k
  induction k with
  | zero => intro _; rfl
  | succ k ih =>
    intro hk
    unfold solX
    rw [ih (by omega)]
    congr 1
    refine ext_lim (by rw [rowV_length, rowV_length]) fun j hj => ?_
    rw [rowV_length] at hj
    rw [rowV_lim _ hj, rowV_lim _ hj]
    unfold solN
    rw [les_half (by omega) k (Nat.le_refl _)]
    cases un
    · rw [half_keep (rowI_lt (by omega)) (rowI_lt (by omega)) _ (by simp)]
      unfold cntB
      cases up <;> simp
    · rw [if_pos rfl, if_pos rfl]
theorem diag_half : ∀ k, k ≤ R → diagZ R (halfK R R up false xs (R * R)) k = diagZ R xs k := by
  intro k
  induction k with
  | zero => intro _; rfl
  | succ k ih =>
    intro hk
    unfold diagZ
    rw [ih (by omega), half_keep (by omega) (by omega) _ (by simp)]
    unfold cntB
    cases up <;> simp
end
theorem fin_half {R C m : Nat} {up un : Bool} {xs : List Nat} (h : finM R C m xs = 0) (hm : m = xs.length) : finM R C m (halfK R C up un xs (R * C)) = 0 := by
  obtain ⟨h1, -⟩ := finM_ok h
  have h2 := (mayM_iff.1 h1).2.2.2.2
  have hmn : m = R * C := by rw [← Int.natCast_mul] at h2; omega
  have hl : (halfK R C up un xs (R * C)).length = m := by rw [half_length]; exact hmn.symm
  have hf : finB xs m = true := by
    rw [hm] at h h1 ⊢
    rw [finM_may h1] at h
    cases g : finB xs xs.length
    · rw [g] at h; exact absurd h (by decide)
    · rfl
  rw [← hl] at h1 ⊢
  rw [finM_may h1, finB_iff.2 (fun j hj => ?_), if_pos rfl]
  rw [half_length] at hj
  rw [half_at hj]
  unfold hvN
  split
  · decide
  · split
    · exact finB_iff.1 hf j (by omega)
    · decide
theorem tr_half {R C : Nat} {up un : Bool} {m : Nat} {xs ys : List Nat} {R2 C2 : Int} {n : Nat} (h : finM R C m xs = 0) (hm : m = xs.length) :
    trE up R C m (halfK R C up un xs (R * C)) R2 C2 n ys un = trE up R C m xs R2 C2 n ys un ∧ (trE up R C m xs R2 C2 n ys un = 0 → trX up R C2 (halfK R C up un xs (R * C)) un ys = trX up R C2 xs un ys) := by
  have hf := fin_half (up := up) (un := un) h hm
  unfold trE trX
  rw [hf, h, Int.toNat_natCast]
  by_cases hrc : R = C
  · subst hrc
    have hr : readyE 0 (finM R2 C2 n ys) R R R2 un (halfK R R up un xs (R * R)) = readyE 0 (finM R2 C2 n ys) R R R2 un xs := by
      unfold readyE
      rw [Int.toNat_natCast]
      cases un
      · rw [diag_half R (Nat.le_refl _)]
      · rfl
    rw [hr, sol_half R (Nat.le_refl _)]
    exact ⟨rfl, fun _ => rfl⟩
  · have hr : ∀ zs, ∀ X : List Nat, tellV X (readyE 0 (finM R2 C2 n ys) R C R2 un zs) = readyE 0 (finM R2 C2 n ys) R C R2 un xs ∧ readyE 0 (finM R2 C2 n ys) R C R2 un xs ≠ 0 := fun zs X => by
      have h1 : ∀ zs, readyE 0 (finM R2 C2 n ys) R C R2 un zs = if finM R2 C2 n ys ≠ 0 then finM R2 C2 n ys else 11 := fun zs => by
        unfold readyE
        rw [if_neg (by decide)]
        split
        · rfl
        · rw [if_pos (.inl (by omega))]
      have h2 : (if finM R2 C2 n ys ≠ 0 then finM R2 C2 n ys else 11) ≠ 0 := by split <;> first | assumption | decide
      rw [h1 zs, h1 xs]
      exact ⟨tellV_no h2, h2⟩
    rw [(hr _ _).1, (hr xs _).1]
    exact ⟨rfl, fun g => absurd g (hr xs []).2⟩
set_option maxRecDepth 100000 in
set_option maxHeartbeats 16000000 in
theorem triRest_calls {R C R2 C2 : Int} {up un : Bool} {a b : Option Addr} {m n cap cap2 : Nat} {xs ys : List Nat} {w : World} (hA : Arg w (.slice a m cap) xs) (hB : Arg w (.slice b n cap2) ys) (hx : Low 18446744073709551616 xs) (hy : Low 18446744073709551616 ys) (hyn : ys.length ≤ 17592186044416) :
    Calls Try.prog 7 #[.agg #[.int .i64 R, .int .i64 C, .slice a m cap], .bool up, .bool un, .agg #[.int .i64 R2, .int .i64 C2, .slice b n cap2]] w fun e W' => e = .returned (.bool true) ∧ Below w.heap.size w W' := by
  have hmx : m = xs.length := by
    obtain ⟨a', c', e⟩ := hA.slice
    simp only [Value.slice.injEq] at e
    omega
  have hnx : n = ys.length := by
    obtain ⟨a', c', e⟩ := hB.slice
    simp only [Value.slice.injEq] at e
    omega
  obtain ⟨B0, G1, G2, hw1⟩ := vboxm w #[.int .i64 R, .int .i64 C, .slice a m cap] #[.int .i64 R2, .int .i64 C2, .slice b n cap2] 24 24 _ rfl
  have HH := Lib.hid (fun W (h : Below w.heap.size w W) => tri_half (R := R) (C := C) (up := up) (un := un) (hA.behind h))
  have HF1 := Lib.hid (fun W (h : Below w.heap.size w W) => shape_finite (R := R) (C := C) (hA.behind h) hx)
  have c0 := G1.cell (i := 0) rfl
  have c1 := G1.cell (i := 1) rfl
  have c2 := G1.cell (i := 2) rfl
  cases hm : mayM R C m
  · as_aux_lemma =>
    clear hA hB hx hy hyn hmx hnx hw1
    rw [hm] at HH
    clear hm
    go_enter Try.func7, Try.ntmps7
    go_wp2_with fail
    generalize (w.alloc (.cells #[.int .i64 R, .int .i64 C, .slice a m cap] 24)).alloc (.cells #[.int .i64 R2, .int .i64 C2, .slice b n cap2] 24) = W0 at *
    refine (l22_alive _).mono ?_
    rintro e w1 ⟨rfl, b1⟩
    replace B0 := below_both B0 b1
    replace G1 := G1.behind b1
    replace G2 := G2.behind b1
    clear c0 c1 c2 b1
    have c0 := G1.cell (i := 0) rfl
    have c1 := G1.cell (i := 1) rfl
    have c2 := G1.cell (i := 2) rfl
    go_wp2_with fail
    refine (HH.out _ B0).mono ?_
    rintro e w2 ⟨R3, C3, b3, n3, c3, rfl, hN, -, hb2⟩
    have B1 := Lib.hid (below_both (below_both B0 hb2) (newb w2 (.cells #[.int .i64 R3, .int .i64 C3, .slice b3 n3 c3] 24)))
    clear hN hb2 c0 c1 c2
    go_wp2
    go_ret
    exact ⟨rfl, B1.out⟩
  · by_cases hf : finM R C m xs = 0
    · obtain ⟨p1, p2, p3, p4, p5⟩ := mayM_iff.1 hm
      obtain ⟨r, rfl⟩ := Int.eq_ofNat_of_zero_le (show 0 ≤ R by omega)
      obtain ⟨c, rfl⟩ := Int.eq_ofNat_of_zero_le (show 0 ≤ C by omega)
      have hmn : m = r * c := by rw [← Int.natCast_mul] at p5; omega
      rw [hm, if_pos rfl, if_pos rfl, Int.toNat_natCast, Int.toNat_natCast] at HH
      rw [hf] at HF1
      obtain ⟨Hf, hHf⟩ : ∃ h, h = halfK r c up un xs (r * c) := ⟨_, rfl⟩
      have hhl : Hf.length = m := by rw [hHf, half_length]; exact hmn.symm
      have hlow : Low 18446744073709551616 Hf := by rw [hHf]; exact half_low hx
      have hth := tr_half (up := up) (un := un) (ys := ys) (R2 := R2) (C2 := C2) (n := n) hf hmx
      rw [← hHf] at HH hth
      obtain ⟨E, hE⟩ : ∃ E, E = trE up (r : Int) (c : Int) m xs R2 C2 n ys un := ⟨_, rfl⟩
      obtain ⟨Z, hZ⟩ : ∃ Z, Z = if E = 0 then trX up (r : Int) C2 xs un ys else [] := ⟨_, rfl⟩
      have HZL : Hid (Z.length ≤ 17592186044416) := Lib.hid (by
        rw [hZ]
        split
        · rename_i h0
          rw [hE] at h0
          have hr : readyE (finM (r : Int) (c : Int) m xs) (finM R2 C2 n ys) r c R2 un xs = 0 := by
            refine Classical.byContradiction fun h1 => ?_
            unfold trE at h0
            rw [tellV_no h1] at h0
            exact h1 h0
          obtain ⟨-, h2, -, h4, -⟩ := ready_ok hr
          subst h4
          obtain ⟨-, -, q3, q4, q5⟩ := mayM_iff.1 (finM_ok h2).1
          obtain ⟨c2', rfl⟩ := Int.eq_ofNat_of_zero_le (show 0 ≤ C2 by omega)
          have hnn : n = r * c2' := by rw [← Int.natCast_mul] at q5; omega
          unfold trX
          rw [Int.toNat_natCast, Int.toNat_natCast, solX_length (by rw [← hnx]; exact hnn) r (Nat.le_refl _)]
          omega
        · simp)
      have HL := Lib.hid (fun W (h : Below w.heap.size w W) => tri_lower (R := (r : Int)) (C := (c : Int)) (R2 := R2) (C2 := C2) (unit := un) (hA.behind h) (hB.behind h) hx hy)
      have HU : Hid (∀ W, Below w.heap.size w W → Calls Try.prog 25 #[.agg #[.int .i64 (r : Int), .int .i64 (c : Int), .slice a m cap], .bool un, .agg #[.int .i64 R2, .int .i64 C2, .slice b n cap2]] W fun e W' => ∃ R3 C3 b3 n3 c3, e = .returned (.tuple #[.agg #[.int .i64 R3, .int .i64 C3, .slice b3 n3 c3], .int .i64 (trE true r c m xs R2 C2 n ys un)]) ∧ New W.heap.size W' (.slice b3 n3 c3) (if trE true r c m xs R2 C2 n ys un = 0 then trX true r C2 xs un ys else []) ∧ (trE true r c m xs R2 C2 n ys un = 0 → R3 = R2 ∧ C3 = C2) ∧ (trE true r c m xs R2 C2 n ys un ≠ 0 → R3 = 0 ∧ C3 = 0) ∧ Below W.heap.size W W') := Lib.hid (fun W h => tri_upper (R := (r : Int)) (C := (c : Int)) (R2 := R2) (C2 := C2) (unit := un) (hA.behind h) (hB.behind h) hx hy)
      have HLH := Lib.hid (fun W (b' : Option Addr) (c' : Nat) (h : Below w.heap.size w W) (hA' : Arg W (.slice b' m c') Hf) => tri_lower (R := (r : Int)) (C := (c : Int)) (R2 := R2) (C2 := C2) (unit := un) hA' (hB.behind h) hlow hy)
      have HUH := Lib.hid (fun W (b' : Option Addr) (c' : Nat) (h : Below w.heap.size w W) (hA' : Arg W (.slice b' m c') Hf) => tri_upper (R := (r : Int)) (C := (c : Int)) (R2 := R2) (C2 := C2) (unit := un) hA' (hB.behind h) hlow hy)
      have HHL := Lib.hid hhl
      have HE := Lib.hid hE
      have HZ := Lib.hid hZ
      have HTH := Lib.hid hth
      clear hA hB hx hy hyn hmx hnx hm hf p1 p2 p3 p4 p5 hmn hHf hhl hlow hth hE hZ hw1
      go_enter Try.func7, Try.ntmps7
      go_wp2_with fail
      generalize (w.alloc (.cells #[.int .i64 (r : Int), .int .i64 (c : Int), .slice a m cap] 24)).alloc (.cells #[.int .i64 R2, .int .i64 C2, .slice b n cap2] 24) = W0 at *
      refine (l22_alive _).mono ?_
      rintro e w1 ⟨rfl, b1⟩
      replace B0 := below_both B0 b1
      replace G1 := G1.behind b1
      replace G2 := G2.behind b1
      clear c0 c1 c2 b1
      have c0 := G1.cell (i := 0) rfl
      have c1 := G1.cell (i := 1) rfl
      have c2 := G1.cell (i := 2) rfl
      go_wp2_with fail
      refine (HH.out _ B0).mono ?_
      rintro e w2 ⟨R3, C3, b3, n3, c3, rfl, hN, h33, hb2⟩
      obtain ⟨rfl, rfl⟩ := h33 trivial
      have hn3 : n3 = m := by
        obtain ⟨a', c', e⟩ := hN.arg.slice
        simp only [Value.slice.injEq] at e
        rw [e.2.1]; exact HHL.out
      subst hn3
      obtain ⟨k3, G3⟩ := mbox w2 #[.int .i64 (r : Int), .int .i64 (c : Int), .slice b3 n3 c3] 24 _ rfl
      replace B0 := below_both (below_both B0 hb2) k3
      replace G1 := (G1.behind hb2).behind k3
      replace G2 := (G2.behind hb2).behind k3
      have hN3 := hN.arg.behind k3
      clear c0 c1 c2 hb2 k3 hN h33
      have c0 := G1.cell (i := 0) rfl
      have c1 := G1.cell (i := 1) rfl
      have c2 := G1.cell (i := 2) rfl
      go_wp2_with fail
      generalize w2.alloc (.cells #[.int .i64 (r : Int), .int .i64 (c : Int), .slice b3 n3 c3] 24) = w3 at *
      refine (HF1.out _ B0).mono ?_
      rintro e w4 ⟨rfl, b4⟩
      replace B0 := below_both B0 b4
      replace G1 := G1.behind b4
      replace G2 := G2.behind b4
      replace G3 := G3.behind b4
      replace hN3 := hN3.behind b4
      clear c0 c1 c2 b4
      have c0 := G1.cell (i := 0) rfl
      have c1 := G1.cell (i := 1) rfl
      have c2 := G1.cell (i := 2) rfl
      have d0 := G2.cell (i := 0) rfl
      have d1 := G2.cell (i := 1) rfl
      have d2 := G2.cell (i := 2) rfl
      go_wp2_with fail
      refine (HL.out _ B0).mono ?_
      rintro e w5 ⟨R5, C5, b5, n5, c5, rfl, hN5, h5, h5', hb5⟩
      replace B0 := below_both B0 hb5
      replace G1 := G1.behind hb5
      replace G2 := G2.behind hb5
      replace G3 := G3.behind hb5
      have hg5 := G3.lt
      have hg52 := G2.lt
      obtain ⟨k6, G6⟩ := mbox w5 #[.int .i64 R5, .int .i64 C5, .slice b5 n5 c5] 24 _ rfl
      replace B0 := below_both B0 k6
      replace G1 := G1.behind k6
      replace G2 := G2.behind k6
      replace G3 := G3.behind k6
      replace hN3 := hN3.behind hb5
      obtain ⟨S3, hS3, hR3⟩ := hN3
      have hN3 : Arg (w5.alloc (.cells #[.int .i64 R5, .int .i64 C5, .slice b5 n5 c5] 24)) (.slice b3 n3 c3) Hf := ⟨S3, by rw [World.size_alloc]; omega, hR3.kept (k6.block S3 hS3)⟩
      replace hR3 := hR3.kept (k6.block S3 hS3)
      have hN6 := hN5.arg.behind k6
      clear c0 c1 c2 d0 d1 d2 hb5 k6 hN5
      have d0 := G2.cell (i := 0) rfl
      have d1 := G2.cell (i := 1) rfl
      have d2 := G2.cell (i := 2) rfl
      have e0 := G3.cell (i := 0) rfl
      have e1 := G3.cell (i := 1) rfl
      have e2 := G3.cell (i := 2) rfl
      go_wp2_with fail
      obtain ⟨gX, hgX⟩ : ∃ g, g = w5.heap.size := ⟨_, rfl⟩
      generalize w5.alloc (.cells #[.int .i64 R5, .int .i64 C5, .slice b5 n5 c5] 24) = w6 at *
      rw [← hgX] at G6 ⊢
      have HX : Hid (w.heap.size + 1 < gX ∧ w2.heap.size < gX ∧ gX < w6.heap.size) := Lib.hid ⟨by omega, by omega, G6.lt⟩
      have hgX' := hgX
      clear hgX hg5 hg52
      refine (HLH.out _ _ _ B0 hN3).mono ?_
      rintro e w7 ⟨R7, C7, b7, n7, c7, rfl, hN7, h7, h7', hb7⟩
      replace B0 := below_both B0 hb7
      replace G1 := G1.behind hb7
      replace G2 := G2.behind hb7
      replace G3 := G3.behind hb7
      replace G6 := G6.behind hb7
      have hg6 := G6.lt
      obtain ⟨k8, G8⟩ := mbox w7 #[.int .i64 R7, .int .i64 C7, .slice b7 n7 c7] 24 _ rfl
      replace B0 := below_both B0 k8
      replace G1 := G1.behind k8
      replace G2 := G2.behind k8
      replace G3 := G3.behind k8
      replace G6 := G6.behind k8
      have hh := hN3.behind hb7
      have HR3 : Hid (S3 < gX ∧ RdAt S3 (w7.alloc (.cells #[.int .i64 R7, .int .i64 C7, .slice b7 n7 c7] 24)) (.slice b3 n3 c3) Hf) := Lib.hid ⟨by rw [hgX']; exact hS3, (hR3.kept (hb7.block S3 (by have := HX.out; omega))).kept (k8.block S3 (by have := HX.out; have := hb7.size; omega))⟩
      replace hN6 := (hN6.behind hb7).behind k8
      have hN8 := hN7.arg.behind k8
      have HWY : Hid (up = false → trE false (r : Int) (c : Int) n3 xs R2 C2 n ys un = E ∧ trE false (r : Int) (c : Int) n3 Hf R2 C2 n ys un = E ∧ R5 = R7 ∧ C5 = C7 ∧ Arg (w7.alloc (.cells #[.int .i64 R7, .int .i64 C7, .slice b7 n7 c7] 24)) (.slice b5 n5 c5) Z ∧ Arg (w7.alloc (.cells #[.int .i64 R7, .int .i64 C7, .slice b7 n7 c7] 24)) (.slice b7 n7 c7) Z) := Lib.hid (fun hu => by
        have t1 := HTH.out
        have t2 := HE.out
        have t3 := HZ.out
        rw [hu] at t1 t2 t3
        rw [← t2] at t1 h5 h5' hN6
        rw [t1.1] at h7 h7' hN8
        refine ⟨t2.symm, t1.1, ?_, ?_, ?_, ?_⟩
        · by_cases h0 : E = 0
          · rw [(h5 h0).1, (h7 h0).1]
          · rw [(h5' h0).1, (h7' h0).1]
        · by_cases h0 : E = 0
          · rw [(h5 h0).2, (h7 h0).2]
          · rw [(h5' h0).2, (h7' h0).2]
        · rw [t3]; exact hN6
        · rw [t3]
          by_cases h0 : E = 0
          · rw [if_pos h0] at hN8 ⊢
            rw [t1.2 h0] at hN8
            exact hN8
          · rw [if_neg h0] at hN8 ⊢
            exact hN8)
      obtain ⟨gY, hgY⟩ : ∃ g, g = w7.heap.size := ⟨_, rfl⟩
      have hs7 := hb7.size
      have hg8 := G8.lt
      clear h5 h5' h7 h7' hN6 hN8 hN7 hb7 k8 hS3 hR3 hh hgX' d0 d1 d2 e0 e1 e2
      go_upto_if 45 with (fail)
      generalize w7.alloc (.cells #[.int .i64 R7, .int .i64 C7, .slice b7 n7 c7] 24) = w8 at *
      rw [← hgY] at G8 ⊢
      have HY : Hid (gX < gY ∧ gY < w8.heap.size ∧ w6.heap.size ≤ gY) := Lib.hid (by have := HX.out; have := G8.lt; omega)
      clear hgY hg6 hg8 hs7
      go_cut [12, 14] from 45 to 59 (fun u v wz => u = .int .i64 E ∧ v = .int .i64 E ∧ Below w.heap.size w wz ∧ ∃ (P Q : Int) (b4 b6 : Option Addr) (n4 c4 n6 c6 : Nat), Ms wz gX #[.int .i64 P, .int .i64 Q, .slice b4 n4 c4] 24 ∧ Ms wz gY #[.int .i64 P, .int .i64 Q, .slice b6 n6 c6] 24 ∧ Arg wz (.slice b4 n4 c4) Z ∧ Arg wz (.slice b6 n6 c6) Z)
      case first =>
        as_aux_lemma =>
        cases up
        · go_wp2_with fail
          go_meet
          have h := (by first | exact HWY.out rfl | exact HWY.out trivial)
          obtain ⟨i1, i2, rfl, rfl, i5, i6⟩ := h
          exact ⟨by rw [i1], by rw [i2], B0, _, _, _, _, _, _, _, _, G6, G8, i5, i6⟩
        · have c0 := G1.cell (i := 0) rfl
          have c1 := G1.cell (i := 1) rfl
          have c2 := G1.cell (i := 2) rfl
          have d0 := G2.cell (i := 0) rfl
          have d1 := G2.cell (i := 1) rfl
          have d2 := G2.cell (i := 2) rfl
          go_wp2_with fail
          refine (HU.out _ B0).mono ?_
          rintro e w9 ⟨R5', C5', b5', n5', c5', rfl, hN9, h5, h5', hb9⟩
          replace B0 := below_both B0 hb9
          replace G2 := G2.behind hb9
          replace G3 := G3.behind hb9
          replace G6 := G6.behind hb9
          replace G8 := G8.behind hb9
          have hs9 := hb9.size
          have hr9 := HR3.out.2.kept (hb9.block S3 (by have := HY.out; have := HR3.out.1; omega))
          have g0 := G6.cell (i := 0) rfl
          have g1 := G6.cell (i := 1) rfl
          have g2 := G6.cell (i := 2) rfl
          have f0 := G6.f 0
          have f1 := G6.f 1
          have f2 := G6.f 2
          have hsz9 : (((w9.setCell ⟨gX, 0, none⟩ (.int .i64 R5')).setCell ⟨gX, 1, none⟩ (.int .i64 C5')).setCell ⟨gX, 2, none⟩ (.slice b5' n5' c5')).heap.size = w9.heap.size := by simp only [World.size_setCell]
          have L2 : Ms (((w9.setCell ⟨gX, 0, none⟩ (.int .i64 R5')).setCell ⟨gX, 1, none⟩ (.int .i64 C5')).setCell ⟨gX, 2, none⟩ (.slice b5' n5' c5')) (w.heap.size + 1) #[.int .i64 R2, .int .i64 C2, .slice b n cap2] 24 := (heap_put3' (by have := HX.out; omega)).trans G2
          have L3 : Ms (((w9.setCell ⟨gX, 0, none⟩ (.int .i64 R5')).setCell ⟨gX, 1, none⟩ (.int .i64 C5')).setCell ⟨gX, 2, none⟩ (.slice b5' n5' c5')) w2.heap.size #[.int .i64 (r : Int), .int .i64 (c : Int), .slice b3 n3 c3] 24 := (heap_put3' (by have := HX.out; omega)).trans G3
          have L6 : Ms (((w9.setCell ⟨gX, 0, none⟩ (.int .i64 R5')).setCell ⟨gX, 1, none⟩ (.int .i64 C5')).setCell ⟨gX, 2, none⟩ (.slice b5' n5' c5')) gX #[.int .i64 R5', .int .i64 C5', .slice b5' n5' c5'] 24 := ms_put3' G6
          have L8 : Ms (((w9.setCell ⟨gX, 0, none⟩ (.int .i64 R5')).setCell ⟨gX, 1, none⟩ (.int .i64 C5')).setCell ⟨gX, 2, none⟩ (.slice b5' n5' c5')) gY #[.int .i64 R7, .int .i64 C7, .slice b7 n7 c7] 24 := (heap_put3' (by have := HY.out; omega)).trans G8
          have LB : Below w.heap.size w (((w9.setCell ⟨gX, 0, none⟩ (.int .i64 R5')).setCell ⟨gX, 1, none⟩ (.int .i64 C5')).setCell ⟨gX, 2, none⟩ (.slice b5' n5' c5')) := B0.put3 (by have := HX.out; omega) _ _ _
          have LN := hN9.put3 (g := gX) (by have := HY.out; omega) (.int .i64 R5') (.int .i64 C5') (.slice b5' n5' c5')
          have LH : Arg (((w9.setCell ⟨gX, 0, none⟩ (.int .i64 R5')).setCell ⟨gX, 1, none⟩ (.int .i64 C5')).setCell ⟨gX, 2, none⟩ (.slice b5' n5' c5')) (.slice b3 n3 c3) Hf := ⟨S3, by rw [hsz9]; have := HR3.out.1; have := HY.out; omega, hr9.kept (heap_put3' (by have := HR3.out.1; have := HX.out; omega))⟩
          clear c0 c1 c2 d0 d1 d2 G1 G2 G3 G6 G8 B0 hN9 hb9 hr9
          go_upto_region 10 with (fail)
          generalize ((w9.setCell ⟨gX, 0, none⟩ (.int .i64 R5')).setCell ⟨gX, 1, none⟩ (.int .i64 C5')).setCell ⟨gX, 2, none⟩ (.slice b5' n5' c5') = w10 at *
          clear g0 g1 g2 f0 f1 f2
          have d0 := L2.cell (i := 0) rfl
          have d1 := L2.cell (i := 1) rfl
          have d2 := L2.cell (i := 2) rfl
          have e0 := L3.cell (i := 0) rfl
          have e1 := L3.cell (i := 1) rfl
          have e2 := L3.cell (i := 2) rfl
          go_wp2_with fail
          refine (HUH.out _ _ _ LB LH).mono ?_
          rintro e w11 ⟨R7', C7', b7', n7', c7', rfl, hN11, h7, h7', hb11⟩
          have t1 := HTH.out
          have t2 := HE.out
          have t3 := HZ.out
          rw [← t2] at t1 h5 h5' LN
          rw [← t3] at LN
          rw [t1.1] at h7 h7' hN11
          have h8 : R5' = R7' ∧ C5' = C7' := by
            by_cases h0 : E = 0
            · rw [(h5 h0).1, (h7 h0).1, (h5 h0).2, (h7 h0).2]; exact ⟨rfl, rfl⟩
            · rw [(h5' h0).1, (h7' h0).1, (h5' h0).2, (h7' h0).2]; exact ⟨rfl, rfl⟩
          have hNZ : New w10.heap.size w11 (.slice b7' n7' c7') Z := by
            rw [t3]
            by_cases h0 : E = 0
            · rw [if_pos h0] at hN11 ⊢
              rw [t1.2 h0] at hN11
              exact hN11
            · rw [if_neg h0] at hN11 ⊢
              exact hN11
          have HTE := Lib.hid (And.intro t2.symm t1.1)
          have HNZ := Lib.hid hNZ
          have HLN := Lib.hid (LN.behind hb11)
          have HB11 := Lib.hid (below_both LB hb11)
          have HH8 := Lib.hid h8
          have M6 := L6.behind hb11
          have M8 := L8.behind hb11
          have g0 := M8.cell (i := 0) rfl
          have g1 := M8.cell (i := 1) rfl
          have g2 := M8.cell (i := 2) rfl
          have f0 := M8.f 0
          have f1 := M8.f 1
          have f2 := M8.f 2
          have HM := Lib.hid (And.intro M6 M8)
          have HS10 := Lib.hid hsz9
          have HS9 := Lib.hid hs9
          clear t1 t2 t3 h5 h5' h7 h7' hN11 hNZ h8 hb11 LN LB LH L2 L3 L6 L8 M6 M8 d0 d1 d2 e0 e1 e2 hsz9 hs9
          go_wp2_with fail
          go_meet
          obtain ⟨rfl, rfl⟩ := HH8.out
          exact ⟨by rw [HTE.out.1], by rw [HTE.out.2], HB11.out.put3 (by have := HX.out; have := HY.out; omega) _ _ _, R5', C5', _, _, _, _, _, _, (heap_put3' (by have := HY.out; omega)).trans HM.out.1, ms_put3' HM.out.2, (HLN.out.put3 HY.out.2.1 _ _ _).arg, (HNZ.out.put3 (by have := HY.out; have := HS10.out; have := HS9.out; omega) _ _ _).arg⟩
      obtain ⟨rfl, rfl, B9, P, Q, b4, b6, n4, c4, n6, c6, M6, M8, hz4, hz6⟩ := hcut
      have HSM := Lib.hid (fun W (h : Below wc.heap.size wc W) => shape_same (R := P) (C := Q) (R' := P) (C' := Q) (hz4.behind h) (hz6.behind h) HZL.out HZL.out)
      rw [show sameM P Q P Q Z Z = true by unfold sameM; simp] at HSM
      have g0 := M6.cell (i := 0) rfl
      have g1 := M6.cell (i := 1) rfl
      have g2 := M6.cell (i := 2) rfl
      have h0 := M8.cell (i := 0) rfl
      have h1 := M8.cell (i := 1) rfl
      have h2 := M8.cell (i := 2) rfl
      have HB9 := Lib.hid B9
      clear B9 B0 hz4 hz6 M6 M8 G1 G2 G3 G6 G8
      go_wp2_with fail
      refine (HSM.out _ (Below.refl _ _)).mono ?_
      rintro e w20 ⟨rfl, b20⟩
      have HX2 := Lib.hid (below_both HB9.out b20)
      clear b20
      go_wp2
      go_ret
      exact ⟨rfl, HX2.out⟩
    · as_aux_lemma =>
      rw [hm] at HH
      generalize finM R C m xs = f1 at *
      have q1 : (f1 != 0) = true := bne_iff_ne.2 hf
      clear hA hB hx hy hyn hmx hnx hw1 hm hf
      go_enter Try.func7, Try.ntmps7
      go_wp2_with fail
      generalize (w.alloc (.cells #[.int .i64 R, .int .i64 C, .slice a m cap] 24)).alloc (.cells #[.int .i64 R2, .int .i64 C2, .slice b n cap2] 24) = W0 at *
      refine (l22_alive _).mono ?_
      rintro e w1 ⟨rfl, b1⟩
      replace B0 := below_both B0 b1
      replace G1 := G1.behind b1
      replace G2 := G2.behind b1
      clear c0 c1 c2 b1
      have c0 := G1.cell (i := 0) rfl
      have c1 := G1.cell (i := 1) rfl
      have c2 := G1.cell (i := 2) rfl
      go_wp2_with fail
      refine (HH.out _ B0).mono ?_
      rintro e w2 ⟨R3, C3, b3, n3, c3, rfl, hN, -, hb2⟩
      obtain ⟨k3, -⟩ := mbox w2 #[.int .i64 R3, .int .i64 C3, .slice b3 n3 c3] 24 _ rfl
      replace B0 := below_both (below_both B0 hb2) k3
      replace G1 := (G1.behind hb2).behind k3
      clear hN hb2 c0 c1 c2 k3
      have c0 := G1.cell (i := 0) rfl
      have c1 := G1.cell (i := 1) rfl
      have c2 := G1.cell (i := 2) rfl
      go_wp2_with fail
      refine (HF1.out _ B0).mono ?_
      rintro e w4 ⟨rfl, b4⟩
      have B1 := Lib.hid (below_both B0 b4)
      clear b4
      go_wp2
      go_ret
      exact ⟨rfl, B1.out⟩
end Go.Proofs.Ytdonecohnemomaa
