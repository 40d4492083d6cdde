/- vernierlaw20.MatParts, walked. -/
import Derived.Test.YtdcebkhdnhdejaaMaPartU
namespace Go.Proofs.Ytdcebkhdnhdejaa
open Go.RowKit Go.Shelf
theorem arg_at {W : World} {v : Value} {xs : List Nat} (hA : Arg W v xs) (h0 : 0 < xs.length) : ∃ S off cap, v = .slice (some ⟨S, off, none⟩) xs.length cap ∧ Hid (∀ W', Below W.heap.size W W' → ∀ k, k < xs.length → W'.cell? ⟨S, off + k, none⟩ = some (.int .u64 (lim xs k : Int))) := by
  obtain ⟨S, hS, hR⟩ := hA
  obtain ⟨a', c', e, hc, ho⟩ := hR.slice
  obtain ⟨off, rfl⟩ := ho h0
  subst e
  exact ⟨S, off, c', rfl, Lib.hid fun W' hb k hk => (hR.kept (hb.block S hS)).cell hk⟩
set_option maxRecDepth 100000 in
set_option maxHeartbeats 16000000 in
theorem parts_no {R C R2 C2 i j rows cols : Int} {a b : Option Addr} {m n cap cap2 : Nat} {w : World} (hm : mayM R C m = false) :
    Calls Try.prog 6 #[.agg #[.int .i64 R, .int .i64 C, .slice a m cap], .int .i64 i, .int .i64 j, .int .i64 rows, .int .i64 cols, .agg #[.int .i64 R2, .int .i64 C2, .slice b n cap2]] w fun e W' => e = .returned (.bool true) ∧ Below w.heap.size w W' := by
  have hc : cutE R C m i j rows cols = 11 := if_pos hm
  have hp : pasE R C m R2 C2 n i j = 11 := if_pos hm
  have hcu := fun w => mat_cut_no (R := R) (C := C) (i := i) (j := j) (rows := rows) (cols := cols) (a := a) (m := m) (cap := cap) (w := w) (by rw [hc]; decide)
  have hpa := fun w => mat_paste_no (R := R) (C := C) (R2 := R2) (C2 := C2) (i := i) (j := j) (a := a) (b := b) (m := m) (cap := cap) (n := n) (cap2 := cap2) (w := w) (by rw [hp]; decide)
  rw [hc] at hcu
  rw [hp] at hpa
  have HCU := Lib.hid hcu
  have HPA := Lib.hid hpa
  have h1 := fun w => shape_check (a := a) (m := m) (cap := cap) (R := R) (C := C) (w := w)
  rw [show chkM R C m = 11 by unfold chkM; rw [hm]; rfl] at h1
  have hal := l20_alive
  obtain ⟨B, G1, G2, hw0⟩ := vboxm w #[.int .i64 R, .int .i64 C, .slice a m cap] #[.int .i64 R2, .int .i64 C2, .slice b n cap2] 24 24 _ rfl
  clear hm hc hp hcu hpa hw0
  go_enter Try.func6, Try.ntmps6
  go_wp2_with fail
  generalize (w.alloc (.cells #[.int .i64 R, .int .i64 C, .slice a m cap] 24)).alloc (.cells #[.int .i64 R2, .int .i64 C2, .slice b n cap2] 24) = W0 at *
  refine (hal _).mono ?_
  rintro e w1 ⟨rfl, b1⟩
  replace G1 := G1.behind b1
  replace G2 := G2.behind b1
  replace B := below_both B b1
  have c0 := G1.cell (i := 0) rfl
  have c1 := G1.cell (i := 1) rfl
  have c2 := G1.cell (i := 2) rfl
  go_wp2_with fail
  refine (HCU.out _).mono ?_
  rintro e w2 ⟨rfl, b2⟩
  obtain ⟨b3, G3⟩ := mbox w2 #[.int .i64 0, .int .i64 0, .slice none 0 0] 24 _ rfl
  replace b3 := below_both b2 b3
  replace G1 := G1.behind b3
  replace G2 := G2.behind b3
  replace B := below_both B b3
  have c0 := G1.cell (i := 0) rfl
  have c1 := G1.cell (i := 1) rfl
  have c2 := G1.cell (i := 2) rfl
  have d0 := G2.cell (i := 0) rfl
  have d1 := G2.cell (i := 1) rfl
  have d2 := G2.cell (i := 2) rfl
  clear b1 b2 b3
  go_wp2_with fail
  generalize w2.alloc (.cells #[.int .i64 0, .int .i64 0, .slice none 0 0] 24) = w3 at *
  refine (HPA.out _).mono ?_
  rintro e w4 ⟨rfl, b4⟩
  obtain ⟨b5, G4⟩ := mbox w4 #[.int .i64 0, .int .i64 0, .slice none 0 0] 24 _ rfl
  replace b5 := below_both b4 b5
  replace G1 := G1.behind b5
  replace G3 := G3.behind b5
  replace B := below_both B b5
  have c0 := G1.cell (i := 0) rfl
  have c1 := G1.cell (i := 1) rfl
  have c2 := G1.cell (i := 2) rfl
  clear b4 b5 d0 d1 d2
  go_wp2_with fail
  generalize w4.alloc (.cells #[.int .i64 0, .int .i64 0, .slice none 0 0] 24) = w5 at *
  refine (h1 _).mono ?_
  rintro e w6 ⟨rfl, b6⟩
  have u2 := (G3.behind b6).cell (i := 2) rfl
  have v2 := (G4.behind b6).cell (i := 2) rfl
  go_wp2
  go_ret
  exact ⟨rfl, below_both B b6⟩
set_option maxRecDepth 100000 in
set_option maxHeartbeats 64000000 in
theorem parts_yes {R C : Nat} {R2 C2 i j rows cols : Int} {a b : Option Addr} {m n cap cap2 : Nat} {xs ys : List Nat} {w : World} (hA : Arg w (.slice a m cap) xs) (hB : Arg w (.slice b n cap2) ys) (hm : mayM R C m = true) :
    Calls Try.prog 6 #[.agg #[.int .i64 (R : Int), .int .i64 (C : Int), .slice a m cap], .int .i64 i, .int .i64 j, .int .i64 rows, .int .i64 cols, .agg #[.int .i64 R2, .int .i64 C2, .slice b n cap2]] w fun e W' => e = .returned (.bool true) ∧ Below w.heap.size w W' := by
  obtain ⟨p1, p2, p3, p4, p5⟩ := mayM_iff.1 hm
  have hmn : m = R * C := by rw [← Int.natCast_mul] at p5; omega
  have hRC : R * C ≤ 64 * 64 := Nat.mul_le_mul (by omega) (by omega)
  have hRC0 : 0 < R * C := Nat.mul_pos (by omega) (by omega)
  have hxl : xs.length = m := by
    obtain ⟨a', c', e⟩ := hA.slice
    simp only [Value.slice.injEq] at e
    omega
  have hyl : ys.length = n := by
    obtain ⟨a', c', e⟩ := hB.slice
    simp only [Value.slice.injEq] at e
    omega
  obtain ⟨S, off, cp, e, HX⟩ := arg_at hA (by omega)
  simp only [Value.slice.injEq] at e
  obtain ⟨rfl, -, rfl⟩ := e
  have hcu := fun (W : World) (h : Below w.heap.size w W) => cut_all (R := (R : Int)) (C := (C : Int)) (i := i) (j := j) (rows := rows) (cols := cols) (hA.behind h)
  have hpa := fun (W : World) (h : Below w.heap.size w W) => paste_all (R := (R : Int)) (C := (C : Int)) (R2 := R2) (C2 := C2) (i := i) (j := j) (hA.behind h) (hB.behind h)
  have h1 := fun w => shape_check (a := some ⟨S, off, none⟩) (m := m) (cap := cap) (R := (R : Int)) (C := (C : Int)) (w := w)
  rw [show chkM R C m = 0 by unfold chkM; rw [hm]; rfl] at h1
  have H2 := Lib.hid (fun w => shape_check (a := b) (m := n) (cap := cap2) (R := R2) (C := C2) (w := w))
  have hal := l20_alive
  -- what the two tell
  obtain ⟨ob, hob⟩ : ∃ q : Bool, q = decide (i < 0 ∨ j < 0 ∨ rows < 1 ∨ cols < 1 ∨ (R : Int) < i ∨ (C : Int) < j ∨ (R : Int) - i < rows ∨ (C : Int) - j < cols) := ⟨_, rfl⟩
  obtain ⟨od, hod⟩ : ∃ q : Bool, q = decide (i < 0 ∨ j < 0 ∨ (R : Int) < i ∨ (C : Int) < j ∨ (R : Int) - i < R2 ∨ (C : Int) - j < C2) := ⟨_, rfl⟩
  have HOB := Lib.hid hob
  have HOD := Lib.hid hod
  have hE1 : cutE R C m i j rows cols = if ob then 4 else 0 := by
    unfold cutE
    rw [if_neg (by rw [hm]; decide)]
    by_cases h : rows < 1 ∨ cols < 1 ∨ outP R C i j rows cols = true
    · rw [if_pos h, hob, if_pos]
      refine decide_eq_true ?_
      rcases h with h | h | h
      · omega
      · omega
      · have := of_decide_eq_true h; omega
    · rw [if_neg h, hob, if_neg]
      have h3 : outP R C i j rows cols = false := by
        cases hh : outP R C i j rows cols
        · rfl
        · exact absurd (.inr (.inr hh)) h
      have h4 := of_decide_eq_false h3
      rw [decide_eq_false (by omega)]
      decide
  have hE2 : pasE R C m R2 C2 n i j = if mayM R2 C2 n then (if od then 4 else 0) else 11 := by
    unfold pasE
    rw [if_neg (by rw [hm]; decide)]
    cases hn : mayM R2 C2 n
    · rw [if_pos rfl]; rfl
    · rw [if_neg (by decide), if_pos rfl]
      obtain ⟨r1, r2, r3, r4, r5⟩ := mayM_iff.1 hn
      cases ho : outP R C i j R2 C2
      · have h4 := of_decide_eq_false ho
        rw [if_neg (by decide), hod, decide_eq_false (by omega)]
        rfl
      · have h4 := of_decide_eq_true ho
        rw [if_pos rfl, hod, decide_eq_true (by omega)]
        rfl
  obtain ⟨E1, hE1'⟩ : ∃ q, q = cutE R C m i j rows cols := ⟨_, rfl⟩
  obtain ⟨E2, hE2'⟩ : ∃ q, q = pasE R C m R2 C2 n i j := ⟨_, rfl⟩
  rw [← hE1'] at hcu hE1
  rw [← hE2'] at hpa hE2
  obtain ⟨Z1, hZ1⟩ : ∃ q, q = if E1 = 0 then cutI C i j rows cols xs else [] := ⟨_, rfl⟩
  obtain ⟨Z2, hZ2⟩ : ∃ q, q = if E2 = 0 then pasV R C i j R2 C2 xs ys else [] := ⟨_, rfl⟩
  rw [← hZ1] at hcu
  rw [← hZ2] at hpa
  have HCU := Lib.hid hcu
  have HPA := Lib.hid hpa
  have HE1 := Lib.hid hE1
  have HE2 := Lib.hid hE2
  have HZ1 := Lib.hid hZ1
  have HZ2 := Lib.hid hZ2
  have HW := Lib.hid (And.intro hA hB)
  have HL := Lib.hid (And.intro hmn (And.intro hRC (And.intro hxl hyl)))
  have HP := Lib.hid (And.intro p1 (And.intro p2 (And.intro p3 p4)))
  obtain ⟨B, G1, G2, hw0⟩ := vboxm w #[.int .i64 (R : Int), .int .i64 (C : Int), .slice (some ⟨S, off, none⟩) m cap] #[.int .i64 R2, .int .i64 C2, .slice b n cap2] 24 24 _ rfl
  clear hm hcu hpa hw0 hE1 hE2 hE1' hE2' hZ1 hZ2 hA hB hmn hRC hRC0 hxl hyl p5 hob hod
  go_enter Try.func6, Try.ntmps6
  go_wp2_with fail
  generalize (w.alloc (.cells #[.int .i64 (R : Int), .int .i64 (C : Int), .slice (some ⟨S, off, none⟩) m cap] 24)).alloc (.cells #[.int .i64 R2, .int .i64 C2, .slice b n cap2] 24) = W0 at *
  refine (hal _).mono ?_
  rintro e w1 ⟨rfl, b1⟩
  replace G1 := G1.behind b1
  replace G2 := G2.behind b1
  replace B := below_both B b1
  have c0 := G1.cell (i := 0) rfl
  have c1 := G1.cell (i := 1) rfl
  have c2 := G1.cell (i := 2) rfl
  go_wp2_with fail
  refine (HCU.out _ B).mono ?_
  rintro e w2 ⟨R3, C3, b3, n3, c3, rfl, N1, hR3, b2⟩
  have HR3 := Lib.hid hR3
  obtain ⟨k3, G3⟩ := mbox w2 #[.int .i64 R3, .int .i64 C3, .slice b3 n3 c3] 24 _ rfl
  replace N1 := (N1.behind k3).arg
  clear c0 c1 c2
  replace k3 := below_both b2 k3
  replace G1 := G1.behind k3
  replace G2 := G2.behind k3
  replace B := below_both B k3
  have c0 := G1.cell (i := 0) rfl
  have c1 := G1.cell (i := 1) rfl
  have c2 := G1.cell (i := 2) rfl
  have d0 := G2.cell (i := 0) rfl
  have d1 := G2.cell (i := 1) rfl
  have d2 := G2.cell (i := 2) rfl
  have HC := Lib.hid N1
  clear b1 b2 k3 N1 hR3
  go_wp2_with fail
  generalize w2.alloc (.cells #[.int .i64 R3, .int .i64 C3, .slice b3 n3 c3] 24) = w3 at *
  refine (HPA.out _ B).mono ?_
  rintro e w4 ⟨R4, C4, b4, n4, c4, rfl, N2, hR4, bq4⟩
  obtain ⟨k4, G4⟩ := mbox w4 #[.int .i64 R4, .int .i64 C4, .slice b4 n4 c4] 24 _ rfl
  replace N2 := (N2.behind k4).arg
  clear c0 c1 c2
  replace k4 := below_both bq4 k4
  replace G1 := G1.behind k4
  replace G2 := G2.behind k4
  replace G3 := G3.behind k4
  replace B := below_both B k4
  have N1 := HC.out.behind k4
  clear HC bq4 k4 hR4 d0 d1 d2
  have c0 := G1.cell (i := 0) rfl
  have c1 := G1.cell (i := 1) rfl
  have c2 := G1.cell (i := 2) rfl
  have HN1 := Lib.hid N1
  have HN2 := Lib.hid N2
  clear N1 N2
  go_wp2_with fail
  generalize w4.alloc (.cells #[.int .i64 R4, .int .i64 C4, .slice b4 n4 c4] 24) = w5 at *
  refine (h1 _).mono ?_
  rintro e w6 ⟨rfl, b6⟩
  replace G1 := G1.behind b6
  replace G2 := G2.behind b6
  replace G3 := G3.behind b6
  replace G4 := G4.behind b6
  replace B := below_both B b6
  clear c0 c1 c2
  have N1 := HN1.out.behind b6
  have N2 := HN2.out.behind b6
  replace HN1 := Lib.hid N1
  replace HN2 := Lib.hid N2
  have HB := Lib.hid B
  have HLN : Hid (n3 = Z1.length ∧ n4 = Z2.length) := Lib.hid (by
    obtain ⟨a', c', e⟩ := N1.slice
    obtain ⟨a'', c'', e'⟩ := N2.slice
    simp only [Value.slice.injEq] at e e'
    exact ⟨e.2.1, e'.2.1⟩)
  have c0 := G1.cell (i := 0) rfl
  have c1 := G1.cell (i := 1) rfl
  have c2 := G1.cell (i := 2) rfl
  clear N1 N2 B b6
  go_upto_region 7 with (fail)
  go_cut [17] from 64 to 105 (fun u wx => u = .bool ob ∧ w6 = wx)
  case first =>
   as_aux_lemma =>
    clear HOD HE1 HE2 HZ1 HZ2 HN1 HN2 HLN
    by_cases h0 : i < 0
    · have q0 : decide (i < 0) = true := decide_eq_true h0
      have ho : ob = true := by rw [HOB.out]; exact decide_eq_true (by omega)
      clear h0
      subst ho
      go_wp2_with fail
      go_meet
      exact ⟨rfl, rfl⟩
    · have q0 : decide (i < 0) = false := decide_eq_false h0
      by_cases h1 : j < 0
      · have q1 : decide (j < 0) = true := decide_eq_true h1
        have ho : ob = true := by rw [HOB.out]; exact decide_eq_true (by omega)
        clear h0 h1
        subst ho
        go_wp2_with fail
        go_meet
        exact ⟨rfl, rfl⟩
      · have q1 : decide (j < 0) = false := decide_eq_false h1
        by_cases h2 : rows < 1
        · have q2 : decide (rows < 1) = true := decide_eq_true h2
          have ho : ob = true := by rw [HOB.out]; exact decide_eq_true (by omega)
          clear h0 h1 h2
          subst ho
          go_wp2_with fail
          go_meet
          exact ⟨rfl, rfl⟩
        · have q2 : decide (rows < 1) = false := decide_eq_false h2
          by_cases h3 : cols < 1
          · have q3 : decide (cols < 1) = true := decide_eq_true h3
            have ho : ob = true := by rw [HOB.out]; exact decide_eq_true (by omega)
            clear h0 h1 h2 h3
            subst ho
            go_wp2_with fail
            go_meet
            exact ⟨rfl, rfl⟩
          · have q3 : decide (cols < 1) = false := decide_eq_false h3
            by_cases h4 : (R : Int) < i
            · have q4 : decide ((R : Int) < i) = true := decide_eq_true h4
              have ho : ob = true := by rw [HOB.out]; exact decide_eq_true (by omega)
              clear h0 h1 h2 h3 h4
              subst ho
              go_wp2_with fail
              go_meet
              exact ⟨rfl, rfl⟩
            · have q4 : decide ((R : Int) < i) = false := decide_eq_false h4
              by_cases h5 : (C : Int) < j
              · have q5 : decide ((C : Int) < j) = true := decide_eq_true h5
                have ho : ob = true := by rw [HOB.out]; exact decide_eq_true (by omega)
                clear h0 h1 h2 h3 h4 h5
                subst ho
                go_wp2_with fail
                go_meet
                exact ⟨rfl, rfl⟩
              · have q5 : decide ((C : Int) < j) = false := decide_eq_false h5
                have e1 : IntKind.i64.wrap ((R : Int) - i) = (R : Int) - i := IntWalk.i64_in _ (by omega)
                by_cases h6 : (R : Int) - i < rows
                · have q6 : decide ((R : Int) - i < rows) = true := decide_eq_true h6
                  have ho : ob = true := by rw [HOB.out]; exact decide_eq_true (by omega)
                  clear h0 h1 h2 h3 h4 h5 h6
                  subst ho
                  go_wp2_with fail
                  go_meet
                  exact ⟨rfl, rfl⟩
                · have q6 : decide ((R : Int) - i < rows) = false := decide_eq_false h6
                  have e2 : IntKind.i64.wrap ((C : Int) - j) = (C : Int) - j := IntWalk.i64_in _ (by omega)
                  by_cases h7 : (C : Int) - j < cols
                  · have q7 : decide ((C : Int) - j < cols) = true := decide_eq_true h7
                    have ho : ob = true := by rw [HOB.out]; exact decide_eq_true (by omega)
                    clear h0 h1 h2 h3 h4 h5 h6 h7
                    subst ho
                    go_wp2_with fail
                    go_meet
                    exact ⟨rfl, rfl⟩
                  · have q7 : decide ((C : Int) - j < cols) = false := decide_eq_false h7
                    have ho : ob = false := by rw [HOB.out]; exact decide_eq_false (by omega)
                    clear h0 h1 h2 h3 h4 h5 h6 h7
                    subst ho
                    go_wp2_with fail
                    go_meet
                    exact ⟨rfl, rfl⟩
  obtain ⟨rfl, rfl⟩ := hcut
  go_upto_if 106 with (fail)
  go_cut [] from 18 to 168 (fun wx => Below w6.heap.size w6 wx)
  case first =>
    cases ob
    · as_aux_lemma =>
      have hE := HE1.out
      rw [if_neg (by decide)] at hE
      subst hE
      have hb := of_decide_eq_false HOB.out.symm
      obtain ⟨i', rfl⟩ := Int.eq_ofNat_of_zero_le (show 0 ≤ i by omega)
      obtain ⟨j', rfl⟩ := Int.eq_ofNat_of_zero_le (show 0 ≤ j by omega)
      obtain ⟨rr, rfl⟩ := Int.eq_ofNat_of_zero_le (show 0 ≤ rows by omega)
      obtain ⟨cc, rfl⟩ := Int.eq_ofNat_of_zero_le (show 0 ≤ cols by omega)
      obtain ⟨rfl, rfl⟩ := HR3.out rfl
      have hz := HZ1.out
      rw [if_pos rfl] at hz
      unfold cutI at hz
      simp only [Int.toNat_natCast] at hz
      have hb' : i' + rr ≤ R ∧ j' + cc ≤ C ∧ 1 ≤ rr ∧ 1 ≤ cc := by omega
      obtain ⟨hb1, hb2, hb3, hb4⟩ := hb'
      obtain ⟨p1, p2, p3, p4⟩ := HP.out
      obtain ⟨hmn, hRC, hxl, hyl⟩ := HL.out
      have hzl : Z1.length = rr * cc := by rw [hz]; exact tab_length _ _ _
      have hrc : rr * cc ≤ 64 * 64 := Nat.mul_le_mul (by omega) (by omega)
      have hrc0 : 0 < rr * cc := Nat.mul_pos (by omega) (by omega)
      have hn3 : n3 = rr * cc := HLN.out.1.trans hzl
      have hN1 := HN1.out
      obtain ⟨S3, o3, cp, e, HX3⟩ := arg_at hN1 (by omega)
      simp only [Value.slice.injEq] at e
      obtain ⟨rfl, -, rfl⟩ := e
      have HAT : Hid (∀ p k, p < rr → k < cc → ∃ x P1 P2 PC IP IPC IPJ : Nat, IntKind.i64.wrap ((p : Int) * (cc : Int)) = (PC : Int) ∧ IntKind.i64.wrap ((PC : Int) + (k : Int)) = (P1 : Int) ∧ IntKind.i64.wrap ((i' : Int) + (p : Int)) = (IP : Int) ∧ IntKind.i64.wrap ((IP : Int) * (C : Int)) = (IPC : Int) ∧ IntKind.i64.wrap ((IPC : Int) + (j' : Int)) = (IPJ : Int) ∧ IntKind.i64.wrap ((IPJ : Int) + (k : Int)) = (P2 : Int) ∧ P1 < n3 ∧ P2 < m ∧ (∀ W, Below w6.heap.size w6 W → W.cell? ⟨S3, o3 + P1, none⟩ = some (.int .u64 (x : Int)) ∧ W.cell? ⟨S, off + P2, none⟩ = some (.int .u64 (x : Int)))) := Lib.hid (fun p k hp hk => by
        have a1 := Nat.mul_le_mul_right cc (show p + 1 ≤ rr by omega)
        have a2 := Nat.mul_le_mul_right C (show i' + p + 1 ≤ R by omega)
        rw [Nat.add_mul, Nat.one_mul] at a1 a2
        refine ⟨lim xs ((i' + p) * C + (j' + k)), p * cc + k, (i' + p) * C + j' + k, p * cc, i' + p, (i' + p) * C, (i' + p) * C + j', ?_, ?_, ?_, ?_, ?_, ?_, by omega, by omega, fun W hW => ⟨?_, ?_⟩⟩
        · rw [← Int.natCast_mul]; exact IntWalk.i64_in _ (by omega)
        · rw [← Int.natCast_add]; exact IntWalk.i64_in _ (by omega)
        · rw [← Int.natCast_add]; exact IntWalk.i64_in _ (by omega)
        · rw [← Int.natCast_mul]; exact IntWalk.i64_in _ (by omega)
        · rw [← Int.natCast_add]; exact IntWalk.i64_in _ (by omega)
        · rw [← Int.natCast_add]; exact IntWalk.i64_in _ (by omega)
        · have h := HX3.out W hW (p * cc + k) (by omega)
          rw [h, hz]
          unfold cutV
          rw [tab_lim _ hp hk]
        · have h := HX.out W (below_both HB.out hW) ((i' + p) * C + j' + k) (by omega)
          rw [h, Nat.add_assoc])
      have hmc : mayM (rr : Int) (cc : Int) n3 = true := mayM_iff.2 ⟨by omega, by omega, by omega, by omega, by rw [hn3, Int.natCast_mul]⟩
      have hma : mayM (R : Int) (C : Int) m = true := mayM_iff.2 ⟨p1, p2, p3, p4, by rw [hmn, Int.natCast_mul]⟩
      have hpb := fun (W : World) (h : Below w6.heap.size w6 W) => (mat_paste (R := R) (C := C) (br := rr) (bc := cc) (i := i') (j := j') (HW.out.1.behind (below_both HB.out h)) (hN1.behind h) hma hmc hb1 hb2 : Calls _ _ _ W _)
      rw [hz, pas_cut (hxl.trans hmn)] at hpb
      have HPB := Lib.hid hpb
      have HSM := Lib.hid (fun (W : World) (b5 : Option Addr) (c5 : Nat) (h : Below w6.heap.size w6 W) (hN : Arg W (.slice b5 m c5) xs) => shape_same (R := (R : Int)) (C := (C : Int)) (R' := (R : Int)) (C' := (C : Int)) (HW.out.1.behind (below_both HB.out h)) hN (by omega) (by omega))
      have HS1 : Hid (sameM (R : Int) (C : Int) (R : Int) (C : Int) xs xs = true) := Lib.hid (by unfold sameM; simp)
      have hrr : rr ≤ 64 := by omega
      have hcc : cc ≤ 64 := by omega
      clear hb hz hb1 hb2 hb3 hb4 p1 p2 p3 p4 hmn hRC hxl hyl hzl hrc hrc0 hn3 hN1 hmc hma hpb HR3 HZ1 HE1 HOB HOD HE2 HZ2 HN2 HN1
      have u2 := G3.cell (i := 2) rfl
      go_wp2
      go_loopw [18] (fun r wr => ∃ p : Nat, p ≤ rr ∧ r = .int .i64 p ∧ Below w6.heap.size w6 wr) (fun i _ => rr - (intOf i).toNat)
      case atStart => exact ⟨0, Nat.zero_le _, rfl, Below.refl _ _⟩
      case round =>
        obtain ⟨p, hp, rfl, hB⟩ := hrel
        by_cases hlt : p < rr
        · as_aux_lemma =>
          have q : decide ((p : Int) < (rr : Int)) = true := decide_eq_true (by omega)
          have e1 : IntKind.i64.wrap ((p : Int) + 1) = ((p + 1 : Nat) : Int) := by rw [Int.natCast_add]; exact IntWalk.i64_in _ (by omega)
          go_wp2
          go_loopw [19] (fun s ws => ∃ k : Nat, k ≤ cc ∧ s = .int .i64 k ∧ Below w6.heap.size w6 ws) (fun i _ => cc - (intOf i).toNat)
          case atStart => exact ⟨0, Nat.zero_le _, rfl, hB⟩
          case round =>
            clear hB
            obtain ⟨k, hk, rfl, hB⟩ := hrel
            by_cases hlt2 : k < cc
            · obtain ⟨x, P1, P2, PC, IP, IPC, IPJ, f1, f2, f3, f4, f5, f6, f7, f8, f9⟩ := HAT.out p k hlt hlt2
              obtain ⟨ka, kb⟩ := f9 _ hB
              clear f9
              have q2 : decide ((k : Int) < (cc : Int)) = true := decide_eq_true (by omega)
              have e2 : IntKind.i64.wrap ((k : Int) + 1) = ((k + 1 : Nat) : Int) := by rw [Int.natCast_add]; exact IntWalk.i64_in _ (by omega)
              have d : ((x : Int) != (x : Int)) = false := by simp
              have g1 := (G1.behind hB).cell (i := 1) rfl
              have g2 := (G1.behind hB).cell (i := 2) rfl
              have g3 := (G3.behind hB).cell (i := 2) rfl
              go_wp2
              go_quiet (fail)
              go_wp2
              exact ⟨⟨k + 1, by omega, rfl, below_both hB (below_drewN _ _ _)⟩, by simp [intOf]; omega⟩
            · obtain rfl : k = cc := by omega
              have q2 : decide ((k : Int) < (k : Int)) = false := decide_eq_false (by omega)
              clear hlt2
              go_wp2
              exact ⟨⟨p + 1, by omega, rfl, hB⟩, by simp [intOf]; omega⟩
        · as_aux_lemma =>
          obtain rfl : p = rr := by omega
          have q : decide ((p : Int) < (p : Int)) = false := decide_eq_false (by omega)
          have K1 := G1.behind hB
          have K3 := G3.behind hB
          have c0 := K1.cell (i := 0) rfl
          have c1 := K1.cell (i := 1) rfl
          have c2 := K1.cell (i := 2) rfl
          have u0 := K3.cell (i := 0) rfl
          have u1 := K3.cell (i := 1) rfl
          have u2 := K3.cell (i := 2) rfl
          clear hlt HAT
          go_wp2_with fail
          refine (HPB.out _ hB).mono ?_
          rintro e w7 ⟨b5, c5, rfl, N5, b7⟩
          obtain ⟨k5, G5⟩ := mbox w7 #[.int .i64 (R : Int), .int .i64 (C : Int), .slice b5 m c5] 24 _ rfl
          have N6 := (N5.behind k5).arg
          have hBB := below_both hB (below_both b7 k5)
          replace K1 := (K1.behind b7).behind k5
          have c0 := K1.cell (i := 0) rfl
          have c1 := K1.cell (i := 1) rfl
          have c2 := K1.cell (i := 2) rfl
          have v0 := G5.cell (i := 0) rfl
          have v1 := G5.cell (i := 1) rfl
          have v2 := G5.cell (i := 2) rfl
          have HS := Lib.hid (HSM.out _ b5 c5 hBB N6)
          have HBB := Lib.hid hBB
          clear u0 u1 u2 b7 N5 N6 k5 hBB hB
          go_wp2_with fail
          refine HS.out.mono ?_
          rw [HS1.out]
          rintro e w8 ⟨rfl, b8⟩
          go_wp2_with fail
          go_meet
          exact below_both HBB.out b8
    · as_aux_lemma =>
      have hE := HE1.out
      rw [if_pos rfl] at hE
      subst hE
      have hz := HZ1.out
      rw [if_neg (by decide)] at hz
      subst hz
      obtain rfl : n3 = 0 := HLN.out.1
      have u2 := G3.cell (i := 2) rfl
      clear HE2 HOD HZ2
      go_wp2_with fail
      go_meet
      exact Below.refl _ _
  obtain ⟨w7, rfl⟩ : ∃ wo, wo = wc := ⟨_, rfl⟩
  replace G1 := G1.behind hcut
  replace G2 := G2.behind hcut
  replace G4 := G4.behind hcut
  have B := below_both HB.out hcut
  have N2 := HN2.out.behind hcut
  have d0 := G2.cell (i := 0) rfl
  have d1 := G2.cell (i := 1) rfl
  have d2 := G2.cell (i := 2) rfl
  clear G3 HCU HPA HR3 HZ1 HE1 HN1 HN2 HB hcut HOB c0 c1 c2
  have h2 := H2.out
  clear H2
  cases hn : mayM R2 C2 n
  · as_aux_lemma =>
    rw [show chkM R2 C2 n = 11 by unfold chkM; rw [hn]; rfl] at h2
    have hE := HE2.out
    rw [hn, if_neg (by decide)] at hE
    subst hE
    have hz := HZ2.out
    rw [if_neg (by decide)] at hz
    subst hz
    obtain rfl : n4 = 0 := HLN.out.2
    clear hn HOD
    go_wp2_with fail
    refine (h2 _).mono ?_
    rintro e w8 ⟨rfl, b8⟩
    have v2 := (G4.behind b8).cell (i := 2) rfl
    go_wp2
    go_ret
    exact ⟨rfl, below_both B b8⟩
  · rw [show chkM R2 C2 n = 0 by unfold chkM; rw [hn]; rfl] at h2
    obtain ⟨r1, r2, r3, r4, r5⟩ := mayM_iff.1 hn
    obtain ⟨br, rfl⟩ := Int.eq_ofNat_of_zero_le (show 0 ≤ R2 by omega)
    obtain ⟨bc, rfl⟩ := Int.eq_ofNat_of_zero_le (show 0 ≤ C2 by omega)
    have hnn : n = br * bc := by rw [← Int.natCast_mul] at r5; omega
    have hE2 := HE2.out
    rw [hn, if_pos rfl] at hE2
    replace HE2 := Lib.hid hE2
    have HNN := Lib.hid (And.intro hnn (And.intro r1 (And.intro r2 (And.intro r3 r4))))
    clear hn r1 r2 r3 r4 r5 hnn hE2
    go_wp2_with fail
    refine (h2 _).mono ?_
    rintro e w8 ⟨rfl, b8⟩
    replace G1 := G1.behind b8
    replace G2 := G2.behind b8
    replace G4 := G4.behind b8
    replace B := below_both B b8
    replace N2 := N2.behind b8
    have HN2 := Lib.hid N2
    have HB := Lib.hid B
    have c0 := G1.cell (i := 0) rfl
    have c1 := G1.cell (i := 1) rfl
    have d0 := G2.cell (i := 0) rfl
    have d1 := G2.cell (i := 1) rfl
    clear N2 B b8 h2 d2
    go_upto_region 24 with (fail)
    go_cut [181] from 182 to 217 (fun u wx => u = .bool od ∧ w8 = wx)
    case first =>
     as_aux_lemma =>
      obtain ⟨-, s1, s2, s3, s4⟩ := HNN.out
      obtain ⟨p1, p2, p3, p4⟩ := HP.out
      clear HE2 HZ2 HN2 HLN
      by_cases h0 : i < 0
      · have q0 : decide (i < 0) = true := decide_eq_true h0
        have ho : od = true := by rw [HOD.out]; exact decide_eq_true (by omega)
        clear h0
        subst ho
        go_wp2_with fail
        go_meet
        exact ⟨rfl, rfl⟩
      · have q0 : decide (i < 0) = false := decide_eq_false h0
        by_cases h1 : j < 0
        · have q1 : decide (j < 0) = true := decide_eq_true h1
          have ho : od = true := by rw [HOD.out]; exact decide_eq_true (by omega)
          clear h0 h1
          subst ho
          go_wp2_with fail
          go_meet
          exact ⟨rfl, rfl⟩
        · have q1 : decide (j < 0) = false := decide_eq_false h1
          by_cases h2 : (R : Int) < i
          · have q2 : decide ((R : Int) < i) = true := decide_eq_true h2
            have ho : od = true := by rw [HOD.out]; exact decide_eq_true (by omega)
            clear h0 h1 h2
            subst ho
            go_wp2_with fail
            go_meet
            exact ⟨rfl, rfl⟩
          · have q2 : decide ((R : Int) < i) = false := decide_eq_false h2
            by_cases h3 : (C : Int) < j
            · have q3 : decide ((C : Int) < j) = true := decide_eq_true h3
              have ho : od = true := by rw [HOD.out]; exact decide_eq_true (by omega)
              clear h0 h1 h2 h3
              subst ho
              go_wp2_with fail
              go_meet
              exact ⟨rfl, rfl⟩
            · have q3 : decide ((C : Int) < j) = false := decide_eq_false h3
              have e1 : IntKind.i64.wrap ((R : Int) - i) = (R : Int) - i := IntWalk.i64_in _ (by omega)
              by_cases h4 : (R : Int) - i < (br : Int)
              · have q4 : decide ((R : Int) - i < (br : Int)) = true := decide_eq_true h4
                have ho : od = true := by rw [HOD.out]; exact decide_eq_true (by omega)
                clear h0 h1 h2 h3 h4
                subst ho
                go_wp2_with fail
                go_meet
                exact ⟨rfl, rfl⟩
              · have q4 : decide ((R : Int) - i < (br : Int)) = false := decide_eq_false h4
                have e2 : IntKind.i64.wrap ((C : Int) - j) = (C : Int) - j := IntWalk.i64_in _ (by omega)
                by_cases h5 : (C : Int) - j < (bc : Int)
                · have q5 : decide ((C : Int) - j < (bc : Int)) = true := decide_eq_true h5
                  have ho : od = true := by rw [HOD.out]; exact decide_eq_true (by omega)
                  clear h0 h1 h2 h3 h4 h5
                  subst ho
                  go_wp2_with fail
                  go_meet
                  exact ⟨rfl, rfl⟩
                · have q5 : decide ((C : Int) - j < (bc : Int)) = false := decide_eq_false h5
                  have ho : od = false := by rw [HOD.out]; exact decide_eq_false (by omega)
                  clear h0 h1 h2 h3 h4 h5
                  subst ho
                  go_wp2_with fail
                  go_meet
                  exact ⟨rfl, rfl⟩
    obtain ⟨rfl, rfl⟩ := hcut
    cases od
    · have hE := HE2.out
      rw [if_neg (by decide)] at hE
      subst hE
      have hb := of_decide_eq_false HOD.out.symm
      obtain ⟨i', rfl⟩ := Int.eq_ofNat_of_zero_le (show 0 ≤ i by omega)
      obtain ⟨j', rfl⟩ := Int.eq_ofNat_of_zero_le (show 0 ≤ j by omega)
      obtain ⟨hnn, s1, s2, s3, s4⟩ := HNN.out
      obtain ⟨p1, p2, p3, p4⟩ := HP.out
      obtain ⟨hmn, hRC, hxl, hyl⟩ := HL.out
      have hz := HZ2.out
      rw [if_pos rfl] at hz
      unfold pasV at hz
      simp only [Int.toNat_natCast] at hz
      have hzl : Z2.length = m := by rw [hz, hmn]; exact rowV_length _ _
      have hn4 : n4 = m := HLN.out.2.trans hzl
      have hbb0 : 0 < br * bc := Nat.mul_pos (by omega) (by omega)
      have hbb : br * bc ≤ 64 * 64 := Nat.mul_le_mul (by omega) (by omega)
      have hRC0 : 0 < R * C := Nat.mul_pos (by omega) (by omega)
      obtain ⟨S4, o4, cp, e, HX4⟩ := arg_at HN2.out (by omega)
      simp only [Value.slice.injEq] at e
      obtain ⟨rfl, -, rfl⟩ := e
      obtain ⟨S2, o2, cp, e, HX2⟩ := arg_at HW.out.2 (by omega)
      simp only [Value.slice.injEq] at e
      obtain ⟨rfl, -, rfl⟩ := e
      subst hn4
      have HQ : Hid (∀ k, k < n4 → ∃ Q s x y z : Nat, (k : Int).tdiv (C : Int) = (Q : Int) ∧ (k : Int).tmod (C : Int) = (s : Int) ∧ Q < 64 ∧ s < 64 ∧ (∀ W, Below w8.heap.size w8 W → W.cell? ⟨S, off + k, none⟩ = some (.int .u64 (x : Int)) ∧ W.cell? ⟨S4, o4 + k, none⟩ = some (.int .u64 (z : Int))) ∧ ((¬ (i' ≤ Q ∧ Q < i' + br ∧ j' ≤ s ∧ s < j' + bc) ∧ z = x) ∨ (i' ≤ Q ∧ Q < i' + br ∧ j' ≤ s ∧ s < j' + bc ∧ z = y ∧ (Q - i') * bc + (s - j') < n ∧ ∀ W, Below w8.heap.size w8 W → W.cell? ⟨S2, o2 + ((Q - i') * bc + (s - j')), none⟩ = some (.int .u64 (y : Int))))) := Lib.hid (fun k hk => by
        have a1 : k / C < R := Nat.div_lt_of_lt_mul (by rw [Nat.mul_comm]; omega)
        have a2 := Nat.mod_lt k (show 0 < C by omega)
        refine ⟨k / C, k % C, lim xs k, lim ys ((k / C - i') * bc + (k % C - j')), lim Z2 k, Int.ofNat_tdiv k C, Int.ofNat_tmod k C, by omega, by omega, fun W hW => ⟨HX.out W (below_both HB.out hW) k (by omega), HX4.out W hW k (by omega)⟩, ?_⟩
        have hl : lim Z2 k = if i' ≤ k / C ∧ k / C < i' + br ∧ j' ≤ k % C ∧ k % C < j' + bc then lim ys ((k / C - i') * bc + (k % C - j')) else lim xs k := by rw [hz]; unfold pasK; exact rowV_lim _ (by omega)
        by_cases h : i' ≤ k / C ∧ k / C < i' + br ∧ j' ≤ k % C ∧ k % C < j' + bc
        · obtain ⟨h1, h2, h3, h4⟩ := h
          have a3 := Nat.mul_le_mul_right bc (show k / C - i' + 1 ≤ br by omega)
          rw [Nat.add_mul, Nat.one_mul] at a3
          refine .inr ⟨h1, h2, h3, h4, ?_, by omega, fun W hW => HX2.out W (below_both HB.out hW) _ (by omega)⟩
          rw [hl, if_pos ⟨h1, h2, h3, h4⟩]
        · refine .inl ⟨h, ?_⟩
          rw [hl, if_neg h])
      have hC0 : ¬ (C : Int) = 0 := by omega
      have hbc : bc ≤ 64 := by omega
      have hi : i' ≤ 64 := by omega
      have hj : j' ≤ 64 := by omega
      have hm4 : n4 ≤ 4096 := by omega
      have hbr : br ≤ 64 := by omega
      clear hb s1 s2 s3 s4 p1 p2 p3 p4 hnn hmn hRC hxl hyl hz hzl hbb0 hbb hRC0 HLN HNN HL HP HN2 HZ2 HE2 HOD HX HX2 HX4 HW c0 c1 d0 d1
      have c2 := G1.cell (i := 2) rfl
      go_wp2
      go_loopw [22] (fun r wr => ∃ k : Nat, k ≤ n4 ∧ r = .int .i64 k ∧ Below w8.heap.size w8 wr) (fun i _ => n4 - (intOf i).toNat)
      case atStart => exact ⟨0, Nat.zero_le _, rfl, Below.refl _ _⟩
      case round =>
        obtain ⟨k, hk, rfl, hB⟩ := hrel
        have g1 := (G1.behind hB).cell (i := 1) rfl
        have g2 := (G1.behind hB).cell (i := 2) rfl
        have g3 := (G2.behind hB).cell (i := 0) rfl
        have g4 := (G2.behind hB).cell (i := 1) rfl
        have g5 := (G2.behind hB).cell (i := 2) rfl
        have g6 := (G4.behind hB).cell (i := 2) rfl
        clear c2
        by_cases hlt : k < n4
        · obtain ⟨Q, s, x, y, z, f1, f2, f3, f4, f5, f6⟩ := HQ.out k hlt
          obtain ⟨ka, kd⟩ := f5 _ hB
          clear f5
          have q : decide ((k : Int) < (n4 : Int)) = true := decide_eq_true (by omega)
          have e1 : IntKind.i64.wrap ((k : Int) + 1) = ((k + 1 : Nat) : Int) := by rw [Int.natCast_add]; exact IntWalk.i64_in _ (by omega)
          have e2 : IntKind.i64.wrap (Q : Int) = (Q : Int) := IntWalk.i64_in _ (by omega)
          have e3 : IntKind.i64.wrap (s : Int) = (s : Int) := IntWalk.i64_in _ (by omega)
          have d : ((z : Int) != (z : Int)) = false := by simp
          rcases f6 with ⟨hno, rfl⟩ | ⟨h1, h2, h3, h4, rfl, h5, h6⟩
          · as_aux_lemma =>
            obtain ⟨a, ha⟩ : ∃ a : Int, a = (Q : Int) - (i' : Int) := ⟨_, rfl⟩
            obtain ⟨b, hb⟩ : ∃ b : Int, b = (s : Int) - (j' : Int) := ⟨_, rfl⟩
            have e4 : IntKind.i64.wrap ((Q : Int) - (i' : Int)) = a := by rw [ha]; exact IntWalk.i64_in _ (by omega)
            have e5 : IntKind.i64.wrap ((s : Int) - (j' : Int)) = b := by rw [hb]; exact IntWalk.i64_in _ (by omega)
            have hno' : a < 0 ∨ (br : Int) ≤ a ∨ b < 0 ∨ (bc : Int) ≤ b := by omega
            clear hno ha hb hk
            by_cases h0 : (0 : Int) ≤ a
            · have q0 : decide ((0 : Int) ≤ a) = true := decide_eq_true h0
              by_cases h1 : a < (br : Int)
              · have q1 : decide (a < (br : Int)) = true := decide_eq_true h1
                by_cases h2 : (0 : Int) ≤ b
                · have q2 : decide ((0 : Int) ≤ b) = true := decide_eq_true h2
                  have q3 : decide (b < (bc : Int)) = false := decide_eq_false (by omega)
                  go_wp2
                  go_quiet (fail)
                  go_wp2
                  exact ⟨⟨k + 1, by omega, rfl, below_both hB (below_drewN _ _ _)⟩, by simp [intOf]; omega⟩
                · have q2 : decide ((0 : Int) ≤ b) = false := decide_eq_false h2
                  go_wp2
                  go_quiet (fail)
                  go_wp2
                  exact ⟨⟨k + 1, by omega, rfl, below_both hB (below_drewN _ _ _)⟩, by simp [intOf]; omega⟩
              · have q1 : decide (a < (br : Int)) = false := decide_eq_false h1
                go_wp2
                go_quiet (fail)
                go_wp2
                exact ⟨⟨k + 1, by omega, rfl, below_both hB (below_drewN _ _ _)⟩, by simp [intOf]; omega⟩
            · have q0 : decide ((0 : Int) ≤ a) = false := decide_eq_false h0
              go_wp2
              go_quiet (fail)
              go_wp2
              exact ⟨⟨k + 1, by omega, rfl, below_both hB (below_drewN _ _ _)⟩, by simp [intOf]; omega⟩
          · as_aux_lemma =>
            obtain ⟨a, ha⟩ : ∃ a : Nat, a = Q - i' := ⟨_, rfl⟩
            obtain ⟨b, hb⟩ : ∃ b : Nat, b = s - j' := ⟨_, rfl⟩
            have e4 : IntKind.i64.wrap ((Q : Int) - (i' : Int)) = (a : Int) := by rw [show (Q : Int) - (i' : Int) = (a : Int) by omega]; exact IntWalk.i64_in _ (by omega)
            have e5 : IntKind.i64.wrap ((s : Int) - (j' : Int)) = (b : Int) := by rw [show (s : Int) - (j' : Int) = (b : Int) by omega]; exact IntWalk.i64_in _ (by omega)
            have q0 : decide ((0 : Int) ≤ (a : Int)) = true := decide_eq_true (by omega)
            have q1 : decide ((a : Int) < (br : Int)) = true := decide_eq_true (by omega)
            have q2 : decide ((0 : Int) ≤ (b : Int)) = true := decide_eq_true (by omega)
            have q3 : decide ((b : Int) < (bc : Int)) = true := decide_eq_true (by omega)
            rw [← ha, ← hb] at h5 h6
            have hab := Nat.mul_le_mul (show a ≤ 64 by omega) hbc
            have e6 : IntKind.i64.wrap ((a : Int) * (bc : Int)) = ((a * bc : Nat) : Int) := by rw [Int.natCast_mul]; exact IntWalk.i64_in _ (by rw [← Int.natCast_mul]; omega)
            have e7 : IntKind.i64.wrap (((a * bc : Nat) : Int) + (b : Int)) = ((a * bc + b : Nat) : Int) := by rw [Int.natCast_add]; exact IntWalk.i64_in _ (by omega)
            obtain ⟨AB, hAB⟩ : ∃ f, f = a * bc := ⟨_, rfl⟩
            rw [← hAB] at e6 e7 h5 h6
            obtain ⟨P, hP⟩ : ∃ f, f = AB + b := ⟨_, rfl⟩
            rw [← hP] at e7 h5 h6
            have kb := h6 _ hB
            have h7 : a < br := by omega
            have h8 : b < bc := by omega
            clear h6 hAB hP hab ha hb h1 h2 h3 h4 hk
            go_wp2
            go_quiet (fail)
            go_wp2
            exact ⟨⟨k + 1, by omega, rfl, below_both hB (below_drewN _ _ _)⟩, by simp [intOf]; omega⟩
        · as_aux_lemma =>
          obtain rfl : k = n4 := by omega
          have q : decide ((k : Int) < (k : Int)) = false := decide_eq_false (by omega)
          clear hlt
          go_wp2
          go_ret
          exact ⟨rfl, below_both HB.out hB⟩
    · as_aux_lemma =>
      have hE := HE2.out
      rw [if_pos rfl] at hE
      subst hE
      have hz := HZ2.out
      rw [if_neg (by decide)] at hz
      subst hz
      obtain rfl : n4 = 0 := HLN.out.2
      have v2 := G4.cell (i := 2) rfl
      go_wp2
      go_ret
      exact ⟨rfl, HB.out⟩
theorem matParts_calls {R C R2 C2 i j rows cols : Int} {a b : Option Addr} {m n cap cap2 : Nat} {xs ys : List Nat} {w : World} (hA : Arg w (.slice a m cap) xs) (hB : Arg w (.slice b n cap2) ys) :
    Calls Try.prog 6 #[.agg #[.int .i64 R, .int .i64 C, .slice a m cap], .int .i64 i, .int .i64 j, .int .i64 rows, .int .i64 cols, .agg #[.int .i64 R2, .int .i64 C2, .slice b n cap2]] w fun e W' => e = .returned (.bool true) ∧ Below w.heap.size w W' := by
  cases hm : mayM R C m
  · exact parts_no hm
  · obtain ⟨p1, p2, p3, p4, p5⟩ := mayM_iff.1 hm
    obtain ⟨R', rfl⟩ := Int.eq_ofNat_of_zero_le (show 0 ≤ R by omega)
    obtain ⟨C', rfl⟩ := Int.eq_ofNat_of_zero_le (show 0 ≤ C by omega)
    exact parts_yes hA hB hm
end Go.Proofs.Ytdcebkhdnhdejaa
