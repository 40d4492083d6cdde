/- vernierlaw21.GemmAll, walked. -/
import Derived.Test.YtdcebkhdnhdejaaGeAll
namespace Go.Proofs.Ytdcebkhdnhdejaa
open Go.RowKit Go.Shelf
theorem gaw_bad {α β : Nat} {ta tb : Bool} {R1 C1 : Int} {m1 : Nat} {xs : List Nat} {R2 C2 : Int} {m2 : Nat} {ys : List Nat} {R3 C3 : Int} {m3 : Nat} {zs : List Nat} {E : Int} {Z : List Nat} (hG : GAW α β ta tb R1 C1 m1 xs R2 C2 m2 ys R3 C3 m3 zs E Z) (h : gaB α β = true) : E = 12 ∧ Z = [] := by
  rcases hG with ⟨_, h1, h2⟩ | ⟨h0, _⟩ | ⟨h0, _⟩ | ⟨h0, _⟩
  · exact ⟨h1, h2⟩
  · rw [h0] at h; cases h
  · rw [h0] at h; cases h
  · rw [h0] at h; cases h
theorem gaw_fin {α β : Nat} {ta tb : Bool} {R1 C1 : Int} {m1 : Nat} {xs : List Nat} {R2 C2 : Int} {m2 : Nat} {ys : List Nat} {R3 C3 : Int} {m3 : Nat} {zs : List Nat} {E : Int} {Z : List Nat} (hG : GAW α β ta tb R1 C1 m1 xs R2 C2 m2 ys R3 C3 m3 zs E Z) (h : gaB α β = false) {f : Int} (hf : f = gaF (finM R1 C1 m1 xs) (finM R2 C2 m2 ys) (finM R3 C3 m3 zs)) (hf0 : f ≠ 0) : E = f ∧ Z = [] := by
  subst hf
  have key : ∀ r1 c1 r2 c2 r3 c3 : Nat, R1 = r1 → C1 = c1 → R2 = r2 → C2 = c2 → R3 = r3 → C3 = c3 → finM r1 c1 m1 xs = 0 → finM r2 c2 m2 ys = 0 → finM r3 c3 m3 zs = 0 → False := fun r1 c1 r2 c2 r3 c3 e1 e2 e3 e4 e5 e6 p1 p2 p3 => by
    subst e1 e2 e3 e4 e5 e6
    exact hf0 (by rw [p1, p2, p3]; rfl)
  rcases hG with ⟨h0, _⟩ | ⟨_, _, h1, h2⟩ | ⟨_, r1, c1, r2, c2, r3, c3, e1, e2, e3, e4, e5, e6, p1, p2, p3, _⟩ | ⟨_, r1, c1, r2, c2, r3, c3, e1, e2, e3, e4, e5, e6, p1, p2, p3, _⟩
  · rw [h] at h0; cases h0
  · exact ⟨h1, h2⟩
  · exact (key r1 c1 r2 c2 r3 c3 e1 e2 e3 e4 e5 e6 p1 p2 p3).elim
  · exact (key r1 c1 r2 c2 r3 c3 e1 e2 e3 e4 e5 e6 p1 p2 p3).elim
theorem gaw_sides {α β : Nat} {ta tb : Bool} {p1 q1 : Nat} {m1 : Nat} {xs : List Nat} {p2 q2 : Nat} {m2 : Nat} {ys : List Nat} {p3 q3 : Nat} {m3 : Nat} {zs : List Nat} {E : Int} {Z : List Nat} (hG : GAW α β ta tb p1 q1 m1 xs p2 q2 m2 ys p3 q3 m3 zs E Z) (h : gaB α β = false) (e1 : finM p1 q1 m1 xs = 0) (e2 : finM p2 q2 m2 ys = 0) (e3 : finM p3 q3 m3 zs = 0) :
    (¬ (tR ta q1 p1 = tR tb p2 q2 ∧ tR ta p1 q1 = p3 ∧ tR tb q2 p2 = q3) → E = 11 ∧ Z = []) ∧
    (tR ta q1 p1 = tR tb p2 q2 → tR ta p1 q1 = p3 → tR tb q2 p2 = q3 → E = gaQ α β (gaP ta tb p1 q1 p2 q2 xs ys) zs ∧ Z = if E = 0 then gaU α β (gaP ta tb p1 q1 p2 q2 xs ys) zs else []) := by
  refine ⟨fun hn => ?_, fun k1 k2 k3 => ?_⟩
  · rcases hG with ⟨h0, _⟩ | ⟨_, h1, _⟩ | ⟨_, r1, s1, r2, s2, r3, s3, g1, g2, g3, g4, g5, g6, _, _, _, _, h1, h2⟩ | ⟨_, r1, s1, r2, s2, r3, s3, g1, g2, g3, g4, g5, g6, _, _, _, h1, h2, h3, _⟩
    · rw [h] at h0; cases h0
    · exact absurd (by rw [e1, e2, e3]; rfl) h1
    · exact ⟨h1, h2⟩
    · obtain rfl : p1 = r1 := by omega
      obtain rfl : q1 = s1 := by omega
      obtain rfl : p2 = r2 := by omega
      obtain rfl : q2 = s2 := by omega
      obtain rfl : p3 = r3 := by omega
      obtain rfl : q3 = s3 := by omega
      exact absurd ⟨h1, h2, h3⟩ hn
  · rcases hG with ⟨h0, _⟩ | ⟨_, h1, _⟩ | ⟨_, r1, s1, r2, s2, r3, s3, g1, g2, g3, g4, g5, g6, _, _, _, h1, _⟩ | ⟨_, r1, s1, r2, s2, r3, s3, g1, g2, g3, g4, g5, g6, _, _, _, _, _, _, h1, h2⟩
    · rw [h] at h0; cases h0
    · exact absurd (by rw [e1, e2, e3]; rfl) h1
    · obtain rfl : p1 = r1 := by omega
      obtain rfl : q1 = s1 := by omega
      obtain rfl : p2 = r2 := by omega
      obtain rfl : q2 = s2 := by omega
      obtain rfl : p3 = r3 := by omega
      obtain rfl : q3 = s3 := by omega
      exact absurd ⟨k1, k2, k3⟩ h1
    · obtain rfl : p1 = r1 := by omega
      obtain rfl : q1 = s1 := by omega
      obtain rfl : p2 = r2 := by omega
      obtain rfl : q2 = s2 := by omega
      exact ⟨h1, h2⟩
set_option maxRecDepth 100000 in
set_option maxHeartbeats 16000000 in
theorem gemmAll_calls {α β : Nat} {ta tb : Bool} {R1 C1 R2 C2 R3 C3 : Int} {a b c : Option Addr} {m1 m2 m3 k1 k2 k3 : Nat} {xs ys zs : List Nat} {w : World} (hα : (α : Int) ≤ 18446744073709551615) (hβ : (β : Int) ≤ 18446744073709551615)
    (hA : Arg w (.slice a m1 k1) xs) (hB : Arg w (.slice b m2 k2) ys) (hC : Arg w (.slice c m3 k3) zs) (hx : Low 18446744073709551616 xs) (hy : Low 18446744073709551616 ys) (hz : Low 18446744073709551616 zs) :
    Calls Try.prog 7 #[.int .u64 (α : Int), .agg #[.int .i64 R1, .int .i64 C1, .slice a m1 k1], .bool ta, .agg #[.int .i64 R2, .int .i64 C2, .slice b m2 k2], .bool tb, .int .u64 (β : Int), .agg #[.int .i64 R3, .int .i64 C3, .slice c m3 k3]] w fun e W' => e = .returned (.bool true) ∧ Below w.heap.size w W' := by
  obtain ⟨E, Z, hG⟩ := gaw_total α β ta tb R1 C1 m1 xs R2 C2 m2 ys R3 C3 m3 zs
  have hpos : 0 < w.heap.size := by obtain ⟨S, hS, _⟩ := hA; omega
  obtain ⟨B0, G1, G2, hs2⟩ := vboxm w #[.int .i64 R1, .int .i64 C1, .slice a m1 k1] #[.int .i64 R2, .int .i64 C2, .slice b m2 k2] 24 24 _ rfl
  obtain ⟨j3, G3⟩ := mbox ((w.alloc (.cells #[.int .i64 R1, .int .i64 C1, .slice a m1 k1] 24)).alloc (.cells #[.int .i64 R2, .int .i64 C2, .slice b m2 k2] 24)) #[.int .i64 R3, .int .i64 C3, .slice c m3 k3] 24 _ rfl
  replace G1 := G1.behind j3
  replace G2 := G2.behind j3
  replace B0 := below_both B0 j3
  simp only [World.size_alloc] at G3
  have hsz : (((w.alloc (.cells #[.int .i64 R1, .int .i64 C1, .slice a m1 k1] 24)).alloc (.cells #[.int .i64 R2, .int .i64 C2, .slice b m2 k2] 24)).alloc (.cells #[.int .i64 R3, .int .i64 C3, .slice c m3 k3] 24)).heap.size = w.heap.size + 3 := by simp only [World.size_alloc]
  have hal := l21_alive
  have H1 := Lib.hid (fun (W : World) (h : Below w.heap.size w W) => shape_finite (R := R1) (C := C1) (hA.behind h) hx)
  have H2 := Lib.hid (fun (W : World) (h : Below w.heap.size w W) => shape_finite (R := R2) (C := C2) (hB.behind h) hy)
  have H3 := Lib.hid (fun (W : World) (h : Below w.heap.size w W) => shape_finite (R := R3) (C := C3) (hC.behind h) hz)
  have HGM := Lib.hid (fun (W : World) (h : Below w.heap.size w W) => gemm_gemm hα hβ (hA.behind h) (hB.behind h) (hC.behind h) hx hy hz hG)
  have HCA := Lib.hid (fun w => class6 (a := α) (W := w) hα)
  have HCB := Lib.hid (fun w => class6 (a := β) (W := w) hβ)
  have HGA := Lib.hid hG
  have HXX := Lib.hid (And.intro hA (And.intro hB (And.intro hC (And.intro hx (And.intro hy hz)))))
  have HBAD := Lib.hid (fun h => gaw_bad hG h)
  have HFIN := Lib.hid (fun (h : gaB α β = false) (f : Int) (hf : f = gaF (finM R1 C1 m1 xs) (finM R2 C2 m2 ys) (finM R3 C3 m3 zs)) (hf0 : f ≠ 0) => gaw_fin hG h hf hf0)
  have HBF : Hid (gaB α β = (decide (1 < cls α) || decide (1 < cls β))) := Lib.hid rfl
  generalize hfa : finM R1 C1 m1 xs = fa at *
  generalize hfb : finM R2 C2 m2 ys = fb at *
  generalize hfc : finM R3 C3 m3 zs = fc at *
  have HFE := Lib.hid (And.intro hfa (And.intro hfb hfc))
  clear hfa hfb hfc hG hA hB hC hx hy hz hs2 j3
  have c0 := G1.cell (i := 0) rfl
  have c1 := G1.cell (i := 1) rfl
  have c2 := G1.cell (i := 2) rfl
  have d0 := G2.cell (i := 0) rfl
  have d1 := G2.cell (i := 1) rfl
  have d2 := G2.cell (i := 2) rfl
  have v0 := G3.cell (i := 0) rfl
  have v1 := G3.cell (i := 1) rfl
  have v2 := G3.cell (i := 2) rfl
  go_enter Try.func7, Try.ntmps7
  go_wp2_with fail
  generalize ((w.alloc (.cells #[.int .i64 R1, .int .i64 C1, .slice a m1 k1] 24)).alloc (.cells #[.int .i64 R2, .int .i64 C2, .slice b m2 k2] 24)).alloc (.cells #[.int .i64 R3, .int .i64 C3, .slice c m3 k3] 24) = W0 at *
  refine (hal _).mono ?_
  rintro e w1 ⟨rfl, b1⟩
  have HSZ : Hid (w.heap.size + 3 ≤ w1.heap.size) := Lib.hid (by have := b1.size; omega)
  replace B0 := below_both B0 b1
  replace G1 := G1.behind b1
  replace G2 := G2.behind b1
  replace G3 := G3.behind b1
  clear hal b1 hsz c0 c1 c2 d0 d1 d2 v0 v1 v2
  have c0 := G1.cell (i := 0) rfl
  have c1 := G1.cell (i := 1) rfl
  have c2 := G1.cell (i := 2) rfl
  have d0 := G2.cell (i := 0) rfl
  have d1 := G2.cell (i := 1) rfl
  have d2 := G2.cell (i := 2) rfl
  have v0 := G3.cell (i := 0) rfl
  have v1 := G3.cell (i := 1) rfl
  have v2 := G3.cell (i := 2) rfl
  go_wp2_with fail
  refine (HGM.out _ B0).mono ?_
  rintro e w2 ⟨RX, CX, bx, nx, kx, rfl, hNX, hRX0, b2⟩
  obtain ⟨j2, GX⟩ := mbox w2 #[.int .i64 RX, .int .i64 CX, .slice bx nx kx] 24 _ rfl
  have b3 := below_both b2 j2
  have hx2 : w1.heap.size ≤ w2.heap.size := b2.size
  have SX0 : Sp w.heap.size w1.heap.size w2 (.slice bx nx kx) Z := by
    obtain ⟨S, h1, h2, h3⟩ := hNX
    rcases h3 with h3 | h3
    · rw [h3] at h1 ⊢
      obtain ⟨sa, sc, es, _, _⟩ := h1.slice
      simp only [Value.slice.injEq] at es
      have hnil : Z = [] := List.length_eq_zero_iff.1 es.2.1.symm
      rw [hnil]
      by_cases hS : w1.heap.size ≤ S
      · exact ⟨S, h2, .inr hS, .inl ⟨⟨_, _, rfl⟩, rfl⟩⟩
      · by_cases hS2 : S < w.heap.size
        · exact ⟨S, h2, .inl hS2, .inl ⟨⟨_, _, rfl⟩, rfl⟩⟩
        · exact ⟨0, by omega, .inl (by omega), .inl ⟨⟨_, _, rfl⟩, rfl⟩⟩
    · exact ⟨S, h2, .inr h3, h1⟩
  obtain ⟨SB0, hSB2, hSB1, hRX⟩ := SX0
  have HSB := Lib.hid (And.intro hSB2 hSB1)
  have AX := Lib.hid (hRX.kept (j2.block SB0 hSB2))
  have HRX := Lib.hid hRX0
  have HNX : Hid (Z = [] → nx = 0) := Lib.hid (fun h => by
    have := hNX.arg
    rw [h] at this
    obtain ⟨a8, c8, e8⟩ := this.slice
    simp only [Value.slice.injEq, List.length_nil] at e8
    exact e8.2.1)
  replace B0 := below_both B0 b3
  replace G1 := G1.behind b3
  replace G2 := G2.behind b3
  replace G3 := G3.behind b3
  clear hNX hRX0 b2 j2 b3 hSB2 hSB1 hRX c0 c1 c2 d0 d1 d2 v0 v1 v2 HGM
  go_upto_region 4 with (fail)
  generalize w2.alloc (.cells #[.int .i64 RX, .int .i64 CX, .slice bx nx kx] 24) = w3 at *
  have HB3 := Lib.hid B0
  have HXW : Hid (w1.heap.size ≤ w2.heap.size) := Lib.hid hx2
  clear hx2
  have u0 := GX.cell (i := 0) rfl
  have u1 := GX.cell (i := 1) rfl
  have u2 := GX.cell (i := 2) rfl
  by_cases hb1 : 1 < cls α
  · as_aux_lemma =>
    obtain ⟨he, hzz⟩ := HBAD.out (by rw [HBF.out, decide_eq_true hb1]; rfl)
    have q : decide ((1 : Int) < (cls α : Int)) = true := decide_eq_true (by omega)
    obtain rfl := HNX.out hzz
    subst he
    generalize cls α = ca at *
    clear hb1 hzz
    go_wp2_with fail
    refine (HCA.out _).mono ?_
    rintro e w4 ⟨rfl, rfl⟩
    go_wp2
    go_ret
    exact ⟨rfl, HB3.out⟩
  · have q : decide ((1 : Int) < (cls α : Int)) = false := decide_eq_false (by omega)
    by_cases hb2 : 1 < cls β
    · as_aux_lemma =>
      obtain ⟨he, hzz⟩ := HBAD.out (by rw [HBF.out, decide_eq_true hb2, Bool.or_true])
      have q2 : decide ((1 : Int) < (cls β : Int)) = true := decide_eq_true (by omega)
      obtain rfl := HNX.out hzz
      subst he
      generalize cls α = ca at *
      generalize cls β = cb at *
      clear hb1 hb2 hzz
      go_wp2_with fail
      refine (HCA.out _).mono ?_
      rintro e w4 ⟨rfl, rfl⟩
      go_wp2_with fail
      refine (HCB.out _).mono ?_
      rintro e w4 ⟨rfl, rfl⟩
      go_wp2
      go_ret
      exact ⟨rfl, HB3.out⟩
    · have q2 : decide ((1 : Int) < (cls β : Int)) = false := decide_eq_false (by omega)
      have HOK : Hid (cls α ≤ 1 ∧ cls β ≤ 1) := Lib.hid ⟨by omega, by omega⟩
      have HNB : Hid (gaB α β = false) := Lib.hid (by rw [HBF.out, decide_eq_false hb1, decide_eq_false hb2]; rfl)
      clear hb1 hb2 HBAD HBF
      have c0 := G1.cell (i := 0) rfl
      have c1 := G1.cell (i := 1) rfl
      have c2 := G1.cell (i := 2) rfl
      have d0 := G2.cell (i := 0) rfl
      have d1 := G2.cell (i := 1) rfl
      have d2 := G2.cell (i := 2) rfl
      have v0 := G3.cell (i := 0) rfl
      have v1 := G3.cell (i := 1) rfl
      have v2 := G3.cell (i := 2) rfl
      go_wp2_with fail
      refine (HCA.out _).mono ?_
      rintro e w4 ⟨rfl, rfl⟩
      go_wp2_with fail
      refine (HCB.out _).mono ?_
      rintro e w4 ⟨rfl, rfl⟩
      clear HCA HCB
      go_upto_region 7 with (fail)
      clear q q2
      have hgx := GX.lt
      obtain ⟨j4, GL⟩ := mbox w3 #[.int .i64 R1, .int .i64 C1, .slice a m1 k1, .int .i64 R2, .int .i64 C2, .slice b m2 k2, .int .i64 R3, .int .i64 C3, .slice c m3 k3] 24 _ rfl
      generalize w3.alloc (.cells #[.int .i64 R1, .int .i64 C1, .slice a m1 k1, .int .i64 R2, .int .i64 C2, .slice b m2 k2, .int .i64 R3, .int .i64 C3, .slice c m3 k3] 24) = w4 at *
      replace B0 := below_both B0 j4
      replace G1 := G1.behind j4
      replace G2 := G2.behind j4
      replace G3 := G3.behind j4
      replace GX := GX.behind j4
      have AX4 := Lib.hid (AX.out.kept (j4.block SB0 (by have := HSB.out.1; omega)))
      clear j4 AX hgx c0 c1 c2 d0 d1 d2 v0 v1 v2 u0 u1 u2 HB3
      go_wp2_with fail
      go_loopw [18] (fun i wr => ∃ (k : Nat) (z : Int), k ≤ 3 ∧ z = k ∧ i = .int .i64 z ∧ Hid (1 ≤ k → fa = 0) ∧ Hid (2 ≤ k → fb = 0) ∧ Hid (3 ≤ k → fc = 0) ∧ Below w4.heap.size w4 wr) (fun i _ => 3 - (intOf i).toNat)
      case atStart => exact ⟨0, 0, by omega, rfl, rfl, Lib.hid (fun h => absurd h (by decide)), Lib.hid (fun h => absurd h (by decide)), Lib.hid (fun h => absurd h (by decide)), Below.refl _ _⟩
      case round =>
        obtain ⟨k, z, hk, hz, rfl, HE1, HE2, HE3, hB⟩ := hrel
        have hBw := below_both B0 hB
        have GL1 := GL.behind hB
        have GX1 := GX.behind hB
        rcases (show k = 0 ∨ k = 1 ∨ k = 2 ∨ k = 3 by omega) with rfl | rfl | rfl | rfl
        · obtain rfl : z = 0 := hz
          have l0 := GL1.cell (i := 0) rfl
          have l1 := GL1.cell (i := 1) rfl
          have l2 := GL1.cell (i := 2) rfl
          by_cases he : fa = 0
          · have HZ1 := Lib.hid he
            have d : (fa != 0) = false := by simp [he]
            clear he 
            go_wp2_with fail
            refine (H1.out _ hBw).mono ?_
            rintro e w5 ⟨rfl, b5⟩
            go_wp2
            exact ⟨⟨1, 1, by omega, rfl, rfl, Lib.hid (fun _ => HZ1.out), Lib.hid (fun h => absurd h (by decide)), Lib.hid (fun h => absurd h (by decide)), below_both hB b5⟩, by simp [intOf]⟩
          · as_aux_lemma =>
            have d : (fa != 0) = true := bne_iff_ne.2 he
            have d2 : (fa == fa) = true := by simp
            obtain ⟨hee, hzz⟩ := HFIN.out HNB.out fa (by unfold gaF; rw [if_pos he]) he
            obtain rfl := HNX.out hzz
            subst hee
            clear he hzz 
            go_wp2_with fail
            refine (H1.out _ hBw).mono ?_
            rintro e w5 ⟨rfl, b5⟩
            have GL2 := GL1.behind b5
            have l0 := GL2.cell (i := 0) rfl
            have l1 := GL2.cell (i := 1) rfl
            have l2 := GL2.cell (i := 2) rfl
            have hBw5 := below_both hBw b5
            go_wp2_with fail
            refine (H1.out _ hBw5).mono ?_
            rintro e w6 ⟨rfl, b6⟩
            have GX2 := GX1.behind (below_both b5 b6)
            have u0 := GX2.cell (i := 0) rfl
            have u1 := GX2.cell (i := 1) rfl
            have u2 := GX2.cell (i := 2) rfl
            have HB6 := Lib.hid (below_both hBw5 b6)
            go_wp2
            go_ret
            exact ⟨rfl, HB6.out⟩
        · obtain rfl : z = 1 := hz
          have ha0 : fa = 0 := HE1.out (by omega)
          have HZ1 := Lib.hid ha0
          have l0 := GL1.cell (i := 3) rfl
          have l1 := GL1.cell (i := 4) rfl
          have l2 := GL1.cell (i := 5) rfl
          by_cases he : fb = 0
          · have HZ2 := Lib.hid he
            have d : (fb != 0) = false := by simp [he]
            clear he ha0
            go_wp2_with fail
            refine (H2.out _ hBw).mono ?_
            rintro e w5 ⟨rfl, b5⟩
            go_wp2
            exact ⟨⟨2, 2, by omega, rfl, rfl, Lib.hid (fun _ => HZ1.out), Lib.hid (fun _ => HZ2.out), Lib.hid (fun h => absurd h (by decide)), below_both hB b5⟩, by simp [intOf]⟩
          · as_aux_lemma =>
            have d : (fb != 0) = true := bne_iff_ne.2 he
            have d2 : (fb == fb) = true := by simp
            obtain ⟨hee, hzz⟩ := HFIN.out HNB.out fb (by unfold gaF; rw [if_neg (by simp [ha0])]; rw [if_pos he]) he
            obtain rfl := HNX.out hzz
            subst hee
            clear he hzz ha0
            go_wp2_with fail
            refine (H2.out _ hBw).mono ?_
            rintro e w5 ⟨rfl, b5⟩
            have GL2 := GL1.behind b5
            have l0 := GL2.cell (i := 3) rfl
            have l1 := GL2.cell (i := 4) rfl
            have l2 := GL2.cell (i := 5) rfl
            have hBw5 := below_both hBw b5
            go_wp2_with fail
            refine (H2.out _ hBw5).mono ?_
            rintro e w6 ⟨rfl, b6⟩
            have GX2 := GX1.behind (below_both b5 b6)
            have u0 := GX2.cell (i := 0) rfl
            have u1 := GX2.cell (i := 1) rfl
            have u2 := GX2.cell (i := 2) rfl
            have HB6 := Lib.hid (below_both hBw5 b6)
            go_wp2
            go_ret
            exact ⟨rfl, HB6.out⟩
        · obtain rfl : z = 2 := hz
          have ha0 : fa = 0 := HE1.out (by omega)
          have hb0 : fb = 0 := HE2.out (by omega)
          have HZ1 := Lib.hid ha0
          have HZ2 := Lib.hid hb0
          have l0 := GL1.cell (i := 6) rfl
          have l1 := GL1.cell (i := 7) rfl
          have l2 := GL1.cell (i := 8) rfl
          by_cases he : fc = 0
          · have HZ3 := Lib.hid he
            have d : (fc != 0) = false := by simp [he]
            clear he ha0 hb0
            go_wp2_with fail
            refine (H3.out _ hBw).mono ?_
            rintro e w5 ⟨rfl, b5⟩
            go_wp2
            exact ⟨⟨3, 3, by omega, rfl, rfl, Lib.hid (fun _ => HZ1.out), Lib.hid (fun _ => HZ2.out), Lib.hid (fun _ => HZ3.out), below_both hB b5⟩, by simp [intOf]⟩
          · as_aux_lemma =>
            have d : (fc != 0) = true := bne_iff_ne.2 he
            have d2 : (fc == fc) = true := by simp
            obtain ⟨hee, hzz⟩ := HFIN.out HNB.out fc (by unfold gaF; rw [if_neg (by simp [ha0])]; rw [if_neg (by simp [hb0])]) he
            obtain rfl := HNX.out hzz
            subst hee
            clear he hzz ha0 hb0
            go_wp2_with fail
            refine (H3.out _ hBw).mono ?_
            rintro e w5 ⟨rfl, b5⟩
            have GL2 := GL1.behind b5
            have l0 := GL2.cell (i := 6) rfl
            have l1 := GL2.cell (i := 7) rfl
            have l2 := GL2.cell (i := 8) rfl
            have hBw5 := below_both hBw b5
            go_wp2_with fail
            refine (H3.out _ hBw5).mono ?_
            rintro e w6 ⟨rfl, b6⟩
            have GX2 := GX1.behind (below_both b5 b6)
            have u0 := GX2.cell (i := 0) rfl
            have u1 := GX2.cell (i := 1) rfl
            have u2 := GX2.cell (i := 2) rfl
            have HB6 := Lib.hid (below_both hBw5 b6)
            go_wp2
            go_ret
            exact ⟨rfl, HB6.out⟩
        · obtain rfl : z = 3 := hz
          have ha0 : fa = 0 := HE1.out (by omega)
          have hb0 : fb = 0 := HE2.out (by omega)
          have hc0 : fc = 0 := HE3.out (by omega)
          obtain ⟨e1, e2, e3⟩ := HFE.out
          rw [ha0] at e1
          rw [hb0] at e2
          rw [hc0] at e3
          obtain ⟨p1, q1, hp1, hq1⟩ := fin_nat e1
          obtain ⟨p2, q2, hp2, hq2⟩ := fin_nat e2
          obtain ⟨p3, q3, hp3, hq3⟩ := fin_nat e3
          subst hp1 hq1 hp2 hq2 hp3 hq3
          obtain ⟨hA, hB', hC, hx, hy, hz⟩ := HXX.out
          have hmx : m1 = xs.length := by
            obtain ⟨a', c', e⟩ := hA.slice
            simp only [Value.slice.injEq] at e
            omega
          have hmy : m2 = ys.length := by
            obtain ⟨a', c', e⟩ := hB'.slice
            simp only [Value.slice.injEq] at e
            omega
          have hmz : m3 = zs.length := by
            obtain ⟨a', c', e⟩ := hC.slice
            simp only [Value.slice.injEq] at e
            omega
          obtain ⟨hS, hS4⟩ := gaw_sides HGA.out HNB.out e1 e2 e3
          have HS := Lib.hid hS
          have HS4 := Lib.hid hS4
          have f1 := tX_fin (t := ta) (R := p1) (C := q1) (xs := xs) (by rw [← hmx]; exact e1)
          have f2 := tX_fin (t := tb) (R := p2) (C := q2) (xs := ys) (by rw [← hmy]; exact e2)
          rw [← hmx] at f1
          rw [← hmy] at f2
          have l1 := tX_low (t := ta) (R := p1) (C := q1) hx
          have l2 := tX_low (t := tb) (R := p2) (C := q2) hy
          have HPD : Hid (gaP ta tb p1 q1 p2 q2 xs ys = prodM (tR ta p1 q1) (tR ta q1 p1) (tR tb q2 p2) (tX ta p1 q1 xs) (tX tb p2 q2 ys)) := Lib.hid rfl
          have hq1' : m1 = p1 * q1 := by
            obtain ⟨u1, u2, u3, u4, u5⟩ := mayM_iff.1 (finM_ok e1).1
            rw [← Int.natCast_mul] at u5; omega
          have hq2' : m2 = p2 * q2 := by
            obtain ⟨u1, u2, u3, u4, u5⟩ := mayM_iff.1 (finM_ok e2).1
            rw [← Int.natCast_mul] at u5; omega
          have HT1 := Lib.hid (fun (W : World) (h : Below w.heap.size w W) => shape_turn (R := p1) (C := q1) (hA.behind h) hx (finM_ok e1).1)
          have HT2 := Lib.hid (fun (W : World) (h : Below w.heap.size w W) => shape_turn (R := p2) (C := q2) (hB'.behind h) hy (finM_ok e2).1)
          rw [← hq1'] at HT1
          rw [← hq2'] at HT2
          have hm10 : 0 < m1 := by
            obtain ⟨u1, u2, u3, u4, u5⟩ := mayM_iff.1 (finM_ok e1).1
            rw [hq1']; exact Nat.mul_pos (by omega) (by omega)
          have hm20 : 0 < m2 := by
            obtain ⟨u1, u2, u3, u4, u5⟩ := mayM_iff.1 (finM_ok e2).1
            rw [hq2']; exact Nat.mul_pos (by omega) (by omega)
          have SA : Sp w.heap.size w1.heap.size wr (.slice a m1 k1) xs := by
            obtain ⟨S, hS, hR⟩ := hA
            exact ⟨S, Nat.lt_of_lt_of_le hS hBw.size, .inl hS, hR.kept (hBw.block S hS)⟩
          have SB : Sp w.heap.size w1.heap.size wr (.slice b m2 k2) ys := by
            obtain ⟨S, hS, hR⟩ := hB'
            exact ⟨S, Nat.lt_of_lt_of_le hS hBw.size, .inl hS, hR.kept (hBw.block S hS)⟩
          have HFN := Lib.hid (And.intro f1 (And.intro f2 (And.intro e3 (And.intro l1 (And.intro l2 (And.intro hz (And.intro hC hmz)))))))
          obtain ⟨ar, har⟩ : ∃ z, z = tR ta p1 q1 := ⟨_, rfl⟩
          obtain ⟨ac, hac⟩ : ∃ z, z = tR ta q1 p1 := ⟨_, rfl⟩
          obtain ⟨br, hbr⟩ : ∃ z, z = tR tb p2 q2 := ⟨_, rfl⟩
          obtain ⟨bc, hbc⟩ : ∃ z, z = tR tb q2 p2 := ⟨_, rfl⟩
          obtain ⟨XS, hXS⟩ : ∃ z, z = tX ta p1 q1 xs := ⟨_, rfl⟩
          obtain ⟨YS, hYS⟩ : ∃ z, z = tX tb p2 q2 ys := ⟨_, rfl⟩
          obtain ⟨P, hP⟩ : ∃ z, z = gaP ta tb p1 q1 p2 q2 xs ys := ⟨_, rfl⟩
          rw [← hP, ← har, ← hac, ← hbc, ← hXS, ← hYS] at HPD
          rw [← har, ← hac, ← hbr, ← hbc] at HS HS4
          rw [← hP] at HS4
          rw [← har, ← hac, ← hbr, ← hbc, ← hXS, ← hYS] at HFN
          have HAR := Lib.hid (And.intro har (And.intro hac (And.intro hbr (And.intro hbc (And.intro hXS hYS)))))
          clear hS hS4 f1 f2 e1 e2 e3 l1 l2 hz hC hmx hmy hmz hA hB' hx hy ha0 hb0 hc0 H1 H2 H3 HFE HGA HXX HFIN HE1 HE2 HE3 har hac hbr hbc hXS hYS hP hq1' hq2' GL GL1
          obtain ⟨w5, rfl⟩ : ∃ wo, wo = wr := ⟨_, rfl⟩
          have K1 := G1.behind hB
          have K2 := G2.behind hB
          have K3 := G3.behind hB
          have KX := GX1
          have AX5 := Lib.hid (AX4.out.kept (hB.block SB0 (by have := HSB.out.1; have := GX.lt; omega)))
          have w25 : w1.heap.size ≤ w2.heap.size ∧ w2.heap.size < w5.heap.size := ⟨HXW.out, KX.lt⟩
          clear G1 G2 G3 GX GX1 AX4 hB hk
          go_upto_if 82 with (fail)
          go_cut [] from 83 to 87 (fun wx => ∃ (ab : Option Addr) (ak : Nat), Sp w.heap.size w1.heap.size wx (.slice ab m1 ak) XS ∧ Sp w.heap.size w1.heap.size wx (.slice b m2 k2) ys ∧ Ms wx w.heap.size #[.int .i64 (ar : Int), .int .i64 (ac : Int), .slice ab m1 ak] 24 ∧ Ms wx (w.heap.size + 1) #[.int .i64 (p2 : Int), .int .i64 (q2 : Int), .slice b m2 k2] 24 ∧ Ms wx (w.heap.size + 2) #[.int .i64 (p3 : Int), .int .i64 (q3 : Int), .slice c m3 k3] 24 ∧ Ms wx w2.heap.size #[.int .i64 RX, .int .i64 CX, .slice bx nx kx] 24 ∧ RdAt SB0 wx (.slice bx nx kx) Z ∧ Below w.heap.size w wx ∧ w2.heap.size < wx.heap.size)
          case first =>
           as_aux_lemma =>
            cases ta
            ·
              obtain ⟨ha1, ha2, _, _, ha3, _⟩ := HAR.out
              obtain rfl : ar = p1 := ha1
              obtain rfl : ac = q1 := ha2
              obtain rfl : XS = xs := ha3
              go_wp2_with fail
              go_meet
              case rel => exact ⟨a, k1, SA, SB, K1, K2, K3, KX, AX5.out, hBw, w25.2⟩
            ·
              obtain ⟨ha1, ha2, _, _, ha3, _⟩ := HAR.out
              obtain rfl : ar = q1 := ha1
              obtain rfl : ac = p1 := ha2
              obtain rfl : XS = trl ac ar xs := ha3
              have c0 := K1.cell (i := 0) rfl
              have c1 := K1.cell (i := 1) rfl
              have c2 := K1.cell (i := 2) rfl
              have f0 := K1.f 0
              have f1 := K1.f 1
              have f2 := K1.f 2
              go_wp2_with fail
              refine (HT1.out _ hBw).mono ?_
              rintro e w7 ⟨b8, c8, rfl, hN8, b7⟩
              have NS : Sp w.heap.size w1.heap.size w7 (.slice b8 m1 c8) (trl ac ar xs) := by
                obtain ⟨S, h1, h2, h3⟩ := hN8
                refine ⟨S, h2, .inr ?_, h1⟩
                rcases h3 with h3 | h3
                · simp only [Value.slice.injEq] at h3
                  omega
                · have := w25.1
                  have := w25.2
                  omega
              have J1 := K1.behind b7
              have J2 := K2.behind b7
              have J3 := K3.behind b7
              have JX := KX.behind b7
              have c0 := J1.cell (i := 0) rfl
              have c1 := J1.cell (i := 1) rfl
              have c2 := J1.cell (i := 2) rfl
              have f0 := J1.f 0
              have f1 := J1.f 1
              have f2 := J1.f 2
              have hz3 := HSZ.out
              have hz4 := b7.size
              have hz5 := w25
              have AXN := (AX5.out.kept (b7.block SB0 (by have := HSB.out.1; have := KX.lt; omega))).kept (heap_put3 (g := w.heap.size) (x := .int .i64 (ar : Int)) (y := .int .i64 (ac : Int)) (z := .slice b8 m1 c8) (by have := HSB.out; omega))
              have BWN := (below_both hBw b7).put3 (g := w.heap.size) (by omega) (.int .i64 (ar : Int)) (.int .i64 (ac : Int)) (.slice b8 m1 c8)
              clear hN8
              go_wp2_with fail
              go_meet
              case rel =>
                exact ⟨b8, c8, NS.put3 (by omega) (by omega), (SB.behind b7).put3 (by omega) (by omega), ms_put3 J1, ms_past3 J2 (by omega), ms_past3 J3 (by omega), ms_past3 JX (by omega), AXN, BWN, by simp only [World.size_setCell]; omega⟩
          obtain ⟨ab, ak, SA, SB, K1, K2, K3, KX, AX6, BW6, w26⟩ := hcut
          obtain ⟨w6, rfl⟩ : ∃ wo, wo = wc := ⟨_, rfl⟩
          replace AX6 := Lib.hid AX6
          replace w26 := And.intro w25.1 w26
          clear AX5 w25 hBw HT1
          go_upto_if 88 with (fail)
          go_cut [] from 89 to 93 (fun wx => ∃ (bb : Option Addr) (bk : Nat), Sp w.heap.size w1.heap.size wx (.slice ab m1 ak) XS ∧ Sp w.heap.size w1.heap.size wx (.slice bb m2 bk) YS ∧ Ms wx w.heap.size #[.int .i64 (ar : Int), .int .i64 (ac : Int), .slice ab m1 ak] 24 ∧ Ms wx (w.heap.size + 1) #[.int .i64 (br : Int), .int .i64 (bc : Int), .slice bb m2 bk] 24 ∧ Ms wx (w.heap.size + 2) #[.int .i64 (p3 : Int), .int .i64 (q3 : Int), .slice c m3 k3] 24 ∧ Ms wx w2.heap.size #[.int .i64 RX, .int .i64 CX, .slice bx nx kx] 24 ∧ RdAt SB0 wx (.slice bx nx kx) Z ∧ Below w.heap.size w wx ∧ w2.heap.size < wx.heap.size)
          case first =>
           as_aux_lemma =>
            cases tb
            ·
              obtain ⟨_, _, ha1, ha2, _, ha3⟩ := HAR.out
              obtain rfl : br = p2 := ha1
              obtain rfl : bc = q2 := ha2
              obtain rfl : YS = ys := ha3
              go_wp2_with fail
              go_meet
              case rel => exact ⟨b, k2, SA, SB, K1, K2, K3, KX, AX6.out, BW6, w26.2⟩
            ·
              obtain ⟨_, _, ha1, ha2, _, ha3⟩ := HAR.out
              obtain rfl : br = q2 := ha1
              obtain rfl : bc = p2 := ha2
              obtain rfl : YS = trl bc br ys := ha3
              have c0 := K2.cell (i := 0) rfl
              have c1 := K2.cell (i := 1) rfl
              have c2 := K2.cell (i := 2) rfl
              have f0 := K2.f 0
              have f1 := K2.f 1
              have f2 := K2.f 2
              go_wp2_with fail
              refine (HT2.out _ BW6).mono ?_
              rintro e w7 ⟨b8, c8, rfl, hN8, b7⟩
              have NS : Sp w.heap.size w1.heap.size w7 (.slice b8 m2 c8) (trl bc br ys) := by
                obtain ⟨S, h1, h2, h3⟩ := hN8
                refine ⟨S, h2, .inr ?_, h1⟩
                rcases h3 with h3 | h3
                · simp only [Value.slice.injEq] at h3
                  omega
                · have := w26.1
                  have := w26.2
                  omega
              have J1 := K1.behind b7
              have J2 := K2.behind b7
              have J3 := K3.behind b7
              have JX := KX.behind b7
              have c0 := J2.cell (i := 0) rfl
              have c1 := J2.cell (i := 1) rfl
              have c2 := J2.cell (i := 2) rfl
              have f0 := J2.f 0
              have f1 := J2.f 1
              have f2 := J2.f 2
              have hz3 := HSZ.out
              have hz4 := b7.size
              have hz5 := w26
              have AXN := (AX6.out.kept (b7.block SB0 (by have := HSB.out.1; have := KX.lt; omega))).kept (heap_put3 (g := w.heap.size + 1) (x := .int .i64 (br : Int)) (y := .int .i64 (bc : Int)) (z := .slice b8 m2 c8) (by have := HSB.out; omega))
              have BWN := (below_both BW6 b7).put3 (g := w.heap.size + 1) (by omega) (.int .i64 (br : Int)) (.int .i64 (bc : Int)) (.slice b8 m2 c8)
              clear hN8
              go_wp2_with fail
              go_meet
              case rel =>
                exact ⟨b8, c8, (SA.behind b7).put3 (by omega) (by omega), NS.put3 (by omega) (by omega), ms_past3 J1 (by omega), ms_put3 J2, ms_past3 J3 (by omega), ms_past3 JX (by omega), AXN, BWN, by simp only [World.size_setCell]; omega⟩
          obtain ⟨bb, bk, SA, SB, K1, K2, K3, KX, SX, BW, hszw⟩ := hcut
          obtain ⟨w7, rfl⟩ : ∃ wo, wo = wc := ⟨_, rfl⟩
          have HBW := Lib.hid BW
          clear AX6 BW6 w26 HT2 HAR
          by_cases hs : ac = br ∧ ar = p3 ∧ bc = q3
          · obtain ⟨s1, s2, s3⟩ := hs
            obtain ⟨hE4, hZ4⟩ := HS4.out s1 s2 s3
            obtain ⟨f1, f2, f3, l1, l2, hz, hC, hmz⟩ := HFN.out
            have q1' : ((ac : Int) != (br : Int)) = false := by simp [s1]
            have q2' : ((ar : Int) != (p3 : Int)) = false := by simp [s2]
            have q3' : ((bc : Int) != (q3 : Int)) = false := by simp [s3]
            subst s1 s2 s3
            have HMU := Lib.hid (l21_product (R := ar) (K := ac) (C := bc) SA.arg SB.arg l1 l2 f1 f2)
            have hm3 := (finM_ok f3).1
            obtain ⟨u1, u2, u3, u4, u5⟩ := mayM_iff.1 hm3
            have hPl : P.length = ar * bc := by rw [HPD.out, prodM_length]
            have hPL : Low 18446744073709551616 P := by rw [HPD.out]; exact prodM_low _ _ _ _ _
            rw [← HPD.out] at HMU
            have hmP : mayM ar bc P.length = true := mayM_iff.2 ⟨u1, u2, u3, u4, by rw [hPl, Int.natCast_mul]⟩
            have hfP := finM_may hmP
            have hSl : (scalV α P).length = P.length := rowV_length _ _
            have hTl : (scalV β zs).length = zs.length := rowV_length _ _
            have hSL : Low 18446744073709551616 (scalV α P) := rowV_low fun i _ => timesU_lt _ _
            have hTL : Low 18446744073709551616 (scalV β zs) := rowV_low fun i _ => timesU_lt _ _
            have hnα : nfE α = 0 := by unfold nfE; rw [if_neg (by have := HOK.out.1; omega)]
            have hnβ : nfE β = 0 := by unfold nfE; rw [if_neg (by have := HOK.out.2; omega)]
            have hfS := finM_may (R := (ar : Int)) (C := (bc : Int)) (ws := scalV α P) (by rw [hSl]; exact hmP)
            have hfT := finM_may (R := (ar : Int)) (C := (bc : Int)) (ws := scalV β zs) (by rw [hTl, ← hmz]; exact hm3)
            -- a multiple of any list
            have HSCA := Lib.hid (fun (R C : Int) (n : Nat) (L : List Nat) (hL : Low 18446744073709551616 L) (W : World) (b : Option Addr) (cc : Nat) (hb : Arg W (.slice b n cc) L) => mat_scale (R := R) (C := C) hα hb hL)
            have HSC2 := Lib.hid (fun (W : World) (h : Below w.heap.size w W) => mat_scale (R := (ar : Int)) (C := (bc : Int)) hβ (hC.behind h) hz)
            have HAD := Lib.hid (fun (R C R' C' : Int) (n n' : Nat) (L L' : List Nat) (hL : Low 18446744073709551616 L) (hL' : Low 18446744073709551616 L') (W : World) (b1 b2 : Option Addr) (cc1 cc2 : Nat) (hb1 : Arg W (.slice b1 n cc1) L) (hb2 : Arg W (.slice b2 n' cc2) L') => mat_add (R := R) (C := C) (R' := R') (C' := C') hb1 hb2 hL hL')
            have hscf1 : finB P P.length = true → scF ar bc P.length P α = 0 := fun h => by unfold scF; rw [hfP, h, hnα]; rfl
            have hscf2 : scF ar bc m3 zs β = 0 := by unfold scF; rw [f3, hnβ]; rfl
            have hadf : finB (scalV α P) (scalV α P).length = true → finB (scalV β zs) (scalV β zs).length = true → pairF ar bc (scalV α P).length (scalV α P) ar bc (scalV β zs).length (scalV β zs) = 0 := fun h1 h2 => by
              unfold pairF sidesE
              rw [hfS, hfT, h1, h2, if_neg (show ¬ ((ar : Int) ≠ (ar : Int) ∨ (bc : Int) ≠ (bc : Int)) by simp)]; rfl
            have HF1 := Lib.hid hscf1
            have HF3 := Lib.hid hadf
            have HPL := Lib.hid hPL
            have HSL := Lib.hid hSL
            have HTL := Lib.hid hTL
            have HPE := Lib.hid (tellV_yes (want := P))
            have HSE := Lib.hid (tellV_yes (want := scalV α P))
            have HTE := Lib.hid (tellV_yes (want := scalV β zs))
            have HUE := Lib.hid (tellV_yes (want := gaU α β P zs))
            have HUL : Hid ((gaU α β P zs).length ≤ 17592186044416) := Lib.hid (by
              unfold gaU pairV
              rw [rowV_length, hSl, hPl]
              have := Nat.mul_le_mul (show ar ≤ 64 by omega) (show bc ≤ 64 by omega)
              omega)
            rw [hscf2] at HSC2
            have HQE := Lib.hid hE4
            have HQZ := Lib.hid hZ4
            have HUD : Hid (pairV plusU (scalV α P) (scalV β zs) = gaU α β P zs) := Lib.hid rfl
            have HNO : Hid (E ≠ 0 → Z = []) := Lib.hid (fun h => by rw [hZ4, if_neg h])
            clear hscf1 hscf2 hadf hE4 hZ4 f1 f2 f3 l1 l2 hz hC hmz u1 u2 u3 u4 u5 hPl hPL hmP hfP hSl hTl hSL hTL hnα hnβ hfS hfT hm3 HS HS4 HFN HPD SA SB BW
            have c0 := K1.cell (i := 0) rfl
            have c1 := K1.cell (i := 1) rfl
            have c2 := K1.cell (i := 2) rfl
            have d0 := K2.cell (i := 0) rfl
            have d1 := K2.cell (i := 1) rfl
            have d2 := K2.cell (i := 2) rfl
            have v0 := K3.cell (i := 0) rfl
            have v1 := K3.cell (i := 1) rfl
            have v2 := K3.cell (i := 2) rfl
            go_wp2_with fail
            refine HMU.out.mono ?_
            rintro e w8 ⟨R5, C5, b5, n5, c5, rfl, hN5, hR5, b8⟩
            obtain ⟨j5, K5⟩ := mbox w8 #[.int .i64 R5, .int .i64 C5, .slice b5 n5 c5] 24 _ rfl
            have b9 := below_both b8 j5
            have A5 := Lib.hid (hN5.arg.behind j5)
            have HR5 := Lib.hid hR5
            have hz8 := b8.size
            replace HBW := Lib.hid (below_both HBW.out b9)
            replace K3 := K3.behind b9
            replace KX := KX.behind b9
            replace SX := SX.kept (b9.block SB0 (by have := HSB.out.1; omega))
            have HW8 : Hid (w7.heap.size ≤ w8.heap.size ∧ w2.heap.size < w7.heap.size) := Lib.hid ⟨hz8, hszw⟩
            clear HMU hN5 hR5 b8 b9 j5 c0 c1 c2 d0 d1 d2 v0 v1 v2 K1 K2 hz8 hszw
            go_upto_region 19 with (fail)
            generalize w8.alloc (.cells #[.int .i64 R5, .int .i64 C5, .slice b5 n5 c5] 24) = w9 at *
            clear q1' q2' q3'
            cases hP : finB P P.length
            · as_aux_lemma =>
              have hE1 : tellV P 0 = 13 := by rw [HPE.out, hP]; rfl
              have HE13 : Hid (E = 13 ∧ Z = []) := Lib.hid (by
                have : E = 13 := by rw [HQE.out]; unfold gaQ; rw [hP]; simp
                exact ⟨this, HNO.out (by rw [this]; decide)⟩)
              rw [hE1] at A5 ⊢
              rw [if_neg (by decide)] at A5
              have hS1 := HSCA.out R5 C5 n5 [] (fun y hy => by cases hy) _ _ _ A5.out
              have hL6 : Low 18446744073709551616 (if tellV (scalV α []) (scF R5 C5 n5 [] α) = 0 then scalV α [] else []) := by
                split
                · exact rowV_low fun i _ => timesU_lt _ _
                · intro y hy; cases hy
              generalize tellV (scalV α []) (scF R5 C5 n5 [] α) = e6 at *
              generalize hL6e : (if e6 = 0 then scalV α [] else []) = L6 at *
              have dd : ((13 : Int) == 0) = false := by decide
              clear hE1 hP hL6e
              have c0 := K5.cell (i := 0) rfl
              have c1 := K5.cell (i := 1) rfl
              have c2 := K5.cell (i := 2) rfl
              have t0 := K5.f 0
              have t1 := K5.f 1
              have t2 := K5.f 2
              go_wp2_with fail
              refine hS1.mono ?_
              rintro e w10 ⟨R6, C6, b6, n6, c6, rfl, hN6, hR6, b10⟩
              have HR6 := Lib.hid hR6
              clear hR6
              have hk4 := K5.lt
              have hx4 := KX.lt
              replace K5 := K5.behind b10
              replace K3 := K3.behind b10
              replace KX := KX.behind b10
              replace SX := SX.kept (b10.block SB0 (by have := HSB.out.1; omega))
              have BW10 := below_both HBW.out b10
              have hb10 := b10.size
              have c0 := K5.cell (i := 0) rfl
              have c1 := K5.cell (i := 1) rfl
              have c2 := K5.cell (i := 2) rfl
              have t0 := K5.f 0
              have t1 := K5.f 1
              have t2 := K5.f 2
              have hw8 := HW8.out
              have hz0 := HSZ.out
              have hz1 := HXW.out
              have hsb := HSB.out
              obtain ⟨S6, hRd6, hS6, ho6⟩ := hN6
              have K5' := ms_put3 (x := .int .i64 R6) (y := .int .i64 C6) (z := .slice b6 n6 c6) K5
              have K3' := ms_past3 (h := w8.heap.size) (x := .int .i64 R6) (y := .int .i64 C6) (z := .slice b6 n6 c6) K3 (by omega)
              have KX' := ms_past3 (h := w8.heap.size) (x := .int .i64 R6) (y := .int .i64 C6) (z := .slice b6 n6 c6) KX (by omega)
              have BW' := BW10.put3 (g := w8.heap.size) (by omega) (.int .i64 R6) (.int .i64 C6) (.slice b6 n6 c6)
              have SX' := SX.kept (heap_put3 (g := w8.heap.size) (x := .int .i64 R6) (y := .int .i64 C6) (z := .slice b6 n6 c6) (by omega))
              have A6' : Arg (((w10.setCell ⟨w8.heap.size, 0, none⟩ (.int .i64 R6)).setCell ⟨w8.heap.size, 1, none⟩ (.int .i64 C6)).setCell ⟨w8.heap.size, 2, none⟩ (.slice b6 n6 c6)) (.slice b6 n6 c6) L6 := by
                rcases ho6 with ho6 | ho6
                · refine ⟨w8.heap.size, by simp only [World.size_setCell]; omega, ?_⟩
                  rw [ho6] at hRd6 ⊢
                  obtain ⟨sa, sc, es, _, _⟩ := hRd6.slice
                  simp only [Value.slice.injEq] at es
                  have hnil : L6 = [] := List.length_eq_zero_iff.1 es.2.1.symm
                  rw [hnil]
                  exact .inl ⟨⟨_, _, rfl⟩, rfl⟩
                · exact ⟨S6, by simp only [World.size_setCell]; exact hS6, hRd6.kept (heap_put3 (by omega))⟩
              go_upto_region 20 with (fail)
              generalize ((w10.setCell ⟨w8.heap.size, 0, none⟩ (.int .i64 R6)).setCell ⟨w8.heap.size, 1, none⟩ (.int .i64 C6)).setCell ⟨w8.heap.size, 2, none⟩ (.slice b6 n6 c6) = w11 at *
              have HBW2 := Lib.hid BW'
              have HA6 := Lib.hid A6'
              clear K5 K3 KX SX BW10 hRd6 hS6 ho6 A6' BW' hS1 b10 c0 c1 c2 t0 t1 t2
              have v0 := K3'.cell (i := 0) rfl
              have v1 := K3'.cell (i := 1) rfl
              have v2 := K3'.cell (i := 2) rfl
              go_wp2_with fail
              refine (HSC2.out _ HBW2.out).mono ?_
              rintro e w12 ⟨R8, C8, b8, n8, c8, rfl, hN8, hR8, b12⟩
              obtain ⟨j8, K8⟩ := mbox w12 #[.int .i64 R8, .int .i64 C8, .slice b8 n8 c8] 24 _ rfl
              have b13 := below_both b12 j8
              have A8 := Lib.hid (hN8.arg.behind j8)
              replace HA6 := Lib.hid (HA6.out.behind b13)
              have hx11 := KX'.lt
              replace KX' := KX'.behind b13
              replace K5' := K5'.behind b13
              replace SX' := SX'.kept (b13.block SB0 (by omega))
              have HBW3 := Lib.hid (below_both HBW2.out b13)
              have HR8 := Lib.hid hR8
              clear hN8 hR8 b12 b13 j8 v0 v1 v2 K3' HBW2
              go_upto_region 21 with (fail)
              generalize w12.alloc (.cells #[.int .i64 R8, .int .i64 C8, .slice b8 n8 c8] 24) = w13 at *
              have hL8 : Low 18446744073709551616 (if tellV (scalV β zs) 0 = 0 then scalV β zs else []) := by
                split
                · exact HTL.out
                · intro y hy; cases hy
              have hAD := HAD.out R6 C6 R8 C8 n6 n8 L6 _ hL6 hL8 _ _ _ _ _ HA6.out A8.out
              generalize tellV (scalV β zs) 0 = e8 at *
              generalize (if e8 = 0 then scalV β zs else []) = L8 at *
              generalize tellV (pairV plusU L6 L8) (pairF R6 C6 n6 L6 R8 C8 n8 L8) = e9 at *
              generalize (if e9 = 0 then pairV plusU L6 L8 else []) = L9 at *
              have c0 := K5'.cell (i := 0) rfl
              have c1 := K5'.cell (i := 1) rfl
              have c2 := K5'.cell (i := 2) rfl
              have v0 := K8.cell (i := 0) rfl
              have v1 := K8.cell (i := 1) rfl
              have v2 := K8.cell (i := 2) rfl
              go_wp2_with fail
              refine hAD.mono ?_
              rintro e w14 ⟨R9, C9, b9, n9, c9, rfl, hN9, hR9, b14⟩
              obtain ⟨j9, K9⟩ := mbox w14 #[.int .i64 R9, .int .i64 C9, .slice b9 n9 c9] 24 _ rfl
              have b15 := below_both b14 j9
              have A9 := Lib.hid (hN9.arg.behind j9)
              have HR9 := Lib.hid hR9
              have hx13 := KX'.lt
              replace KX' := KX'.behind b15
              replace SX' := SX'.kept (b15.block SB0 (by omega))
              have HBW4 := Lib.hid (below_both HBW3.out b15)
              have u0 := KX'.cell (i := 0) rfl
              have u1 := KX'.cell (i := 1) rfl
              have u2 := KX'.cell (i := 2) rfl
              clear hN9 hR9 b14 b15 j9 c0 c1 c2 v0 v1 v2 hAD
              have HT13 : E = 13 ∧ Z = [] := HE13.out
              obtain rfl := HNX.out HT13.2
              obtain rfl : E = 13 := HT13.1
              clear HT13
              go_wp2
              go_ret
              exact ⟨rfl, HBW4.out⟩
            · have hE1 : tellV P 0 = 0 := by rw [HPE.out, hP]; rfl
              rw [hE1] at HR5 A5 ⊢
              obtain ⟨rfl, rfl⟩ := HR5.out rfl
              rw [if_pos rfl] at A5
              obtain rfl : n5 = P.length := by
                obtain ⟨a8, c8, e8⟩ := A5.out.slice
                simp only [Value.slice.injEq] at e8
                exact e8.2.1
              have hS1 := HSCA.out ar bc P.length P HPL.out _ _ _ A5.out
              rw [HF1.out hP] at hS1
              have HP := Lib.hid hP
              have dd : ((0 : Int) == 0) = true := by decide
              clear hE1 hP HR5
              cases hS : finB (scalV α P) (scalV α P).length
              · as_aux_lemma =>
                have hE6 : tellV (scalV α P) 0 = 13 := by rw [HSE.out, hS]; rfl
                have HE13 : Hid (E = 13 ∧ Z = []) := Lib.hid (by
                  have : E = 13 := by rw [HQE.out]; unfold gaQ; rw [hS]; simp
                  exact ⟨this, HNO.out (by rw [this]; decide)⟩)
                rw [hE6, if_neg (by decide)] at hS1
                clear hE6 hS
                have c0 := K5.cell (i := 0) rfl
                have c1 := K5.cell (i := 1) rfl
                have c2 := K5.cell (i := 2) rfl
                have t0 := K5.f 0
                have t1 := K5.f 1
                have t2 := K5.f 2
                go_wp2_with fail
                refine hS1.mono ?_
                rintro e w10 ⟨R6, C6, b6, n6, c6, rfl, hN6, hR6, b10⟩
                have HR6 := Lib.hid hR6
                clear hR6
                have hk4 := K5.lt
                have hx4 := KX.lt
                replace K5 := K5.behind b10
                replace K3 := K3.behind b10
                replace KX := KX.behind b10
                replace SX := SX.kept (b10.block SB0 (by have := HSB.out.1; omega))
                have BW10 := below_both HBW.out b10
                have hb10 := b10.size
                have c0 := K5.cell (i := 0) rfl
                have c1 := K5.cell (i := 1) rfl
                have c2 := K5.cell (i := 2) rfl
                have t0 := K5.f 0
                have t1 := K5.f 1
                have t2 := K5.f 2
                have hw8 := HW8.out
                have hz0 := HSZ.out
                have hz1 := HXW.out
                have hsb := HSB.out
                obtain ⟨S6, hRd6, hS6, ho6⟩ := hN6
                have K5' := ms_put3 (x := .int .i64 R6) (y := .int .i64 C6) (z := .slice b6 n6 c6) K5
                have K3' := ms_past3 (h := w8.heap.size) (x := .int .i64 R6) (y := .int .i64 C6) (z := .slice b6 n6 c6) K3 (by omega)
                have KX' := ms_past3 (h := w8.heap.size) (x := .int .i64 R6) (y := .int .i64 C6) (z := .slice b6 n6 c6) KX (by omega)
                have BW' := BW10.put3 (g := w8.heap.size) (by omega) (.int .i64 R6) (.int .i64 C6) (.slice b6 n6 c6)
                have SX' := SX.kept (heap_put3 (g := w8.heap.size) (x := .int .i64 R6) (y := .int .i64 C6) (z := .slice b6 n6 c6) (by omega))
                have A6' : Arg (((w10.setCell ⟨w8.heap.size, 0, none⟩ (.int .i64 R6)).setCell ⟨w8.heap.size, 1, none⟩ (.int .i64 C6)).setCell ⟨w8.heap.size, 2, none⟩ (.slice b6 n6 c6)) (.slice b6 n6 c6) [] := by
                  rcases ho6 with ho6 | ho6
                  · refine ⟨w8.heap.size, by simp only [World.size_setCell]; omega, ?_⟩
                    rw [ho6] at hRd6 ⊢
                    obtain ⟨sa, sc, es, _, _⟩ := hRd6.slice
                    simp only [Value.slice.injEq] at es
                    have hnil : [] = [] := List.length_eq_zero_iff.1 es.2.1.symm
                    rw [hnil]
                    exact .inl ⟨⟨_, _, rfl⟩, rfl⟩
                  · exact ⟨S6, by simp only [World.size_setCell]; exact hS6, hRd6.kept (heap_put3 (by omega))⟩
                go_upto_region 20 with (fail)
                generalize ((w10.setCell ⟨w8.heap.size, 0, none⟩ (.int .i64 R6)).setCell ⟨w8.heap.size, 1, none⟩ (.int .i64 C6)).setCell ⟨w8.heap.size, 2, none⟩ (.slice b6 n6 c6) = w11 at *
                have HBW2 := Lib.hid BW'
                have HA6 := Lib.hid A6'
                clear K5 K3 KX SX BW10 hRd6 hS6 ho6 A6' BW' hS1 b10 c0 c1 c2 t0 t1 t2
                have v0 := K3'.cell (i := 0) rfl
                have v1 := K3'.cell (i := 1) rfl
                have v2 := K3'.cell (i := 2) rfl
                go_wp2_with fail
                refine (HSC2.out _ HBW2.out).mono ?_
                rintro e w12 ⟨R8, C8, b8, n8, c8, rfl, hN8, hR8, b12⟩
                obtain ⟨j8, K8⟩ := mbox w12 #[.int .i64 R8, .int .i64 C8, .slice b8 n8 c8] 24 _ rfl
                have b13 := below_both b12 j8
                have A8 := Lib.hid (hN8.arg.behind j8)
                replace HA6 := Lib.hid (HA6.out.behind b13)
                have hx11 := KX'.lt
                replace KX' := KX'.behind b13
                replace K5' := K5'.behind b13
                replace SX' := SX'.kept (b13.block SB0 (by omega))
                have HBW3 := Lib.hid (below_both HBW2.out b13)
                have HR8 := Lib.hid hR8
                clear hN8 hR8 b12 b13 j8 v0 v1 v2 K3' HBW2
                go_upto_region 21 with (fail)
                generalize w12.alloc (.cells #[.int .i64 R8, .int .i64 C8, .slice b8 n8 c8] 24) = w13 at *
                have hL8 : Low 18446744073709551616 (if tellV (scalV β zs) 0 = 0 then scalV β zs else []) := by
                  split
                  · exact HTL.out
                  · intro y hy; cases hy
                have hAD := HAD.out R6 C6 R8 C8 n6 n8 [] _ (fun y hy => by cases hy) hL8 _ _ _ _ _ HA6.out A8.out
                generalize tellV (scalV β zs) 0 = e8 at *
                generalize (if e8 = 0 then scalV β zs else []) = L8 at *
                generalize tellV (pairV plusU [] L8) (pairF R6 C6 n6 [] R8 C8 n8 L8) = e9 at *
                generalize (if e9 = 0 then pairV plusU [] L8 else []) = L9 at *
                have c0 := K5'.cell (i := 0) rfl
                have c1 := K5'.cell (i := 1) rfl
                have c2 := K5'.cell (i := 2) rfl
                have v0 := K8.cell (i := 0) rfl
                have v1 := K8.cell (i := 1) rfl
                have v2 := K8.cell (i := 2) rfl
                go_wp2_with fail
                refine hAD.mono ?_
                rintro e w14 ⟨R9, C9, b9, n9, c9, rfl, hN9, hR9, b14⟩
                obtain ⟨j9, K9⟩ := mbox w14 #[.int .i64 R9, .int .i64 C9, .slice b9 n9 c9] 24 _ rfl
                have b15 := below_both b14 j9
                have A9 := Lib.hid (hN9.arg.behind j9)
                have HR9 := Lib.hid hR9
                have hx13 := KX'.lt
                replace KX' := KX'.behind b15
                replace SX' := SX'.kept (b15.block SB0 (by omega))
                have HBW4 := Lib.hid (below_both HBW3.out b15)
                have u0 := KX'.cell (i := 0) rfl
                have u1 := KX'.cell (i := 1) rfl
                have u2 := KX'.cell (i := 2) rfl
                clear hN9 hR9 b14 b15 j9 c0 c1 c2 v0 v1 v2 hAD
                have HT13 : E = 13 ∧ Z = [] := HE13.out
                obtain rfl := HNX.out HT13.2
                obtain rfl : E = 13 := HT13.1
                clear HT13
                go_wp2
                go_ret
                exact ⟨rfl, HBW4.out⟩
              · have hE6 : tellV (scalV α P) 0 = 0 := by rw [HSE.out, hS]; rfl
                rw [hE6, if_pos rfl] at hS1
                cases hT : finB (scalV β zs) (scalV β zs).length
                · as_aux_lemma =>
                  have hE8 : tellV (scalV β zs) 0 = 13 := by rw [HTE.out, hT]; rfl
                  have HE13 : Hid (E = 13 ∧ Z = []) := Lib.hid (by
                    have : E = 13 := by rw [HQE.out]; unfold gaQ; rw [hT]; simp
                    exact ⟨this, HNO.out (by rw [this]; decide)⟩)
                  rw [hE8, if_neg (by decide)] at HSC2
                  clear hE6 hS hE8 hT
                  have c0 := K5.cell (i := 0) rfl
                  have c1 := K5.cell (i := 1) rfl
                  have c2 := K5.cell (i := 2) rfl
                  have t0 := K5.f 0
                  have t1 := K5.f 1
                  have t2 := K5.f 2
                  go_wp2_with fail
                  refine hS1.mono ?_
                  rintro e w10 ⟨R6, C6, b6, n6, c6, rfl, hN6, hR6, b10⟩
                  have HR6 := Lib.hid hR6
                  clear hR6
                  have hk4 := K5.lt
                  have hx4 := KX.lt
                  replace K5 := K5.behind b10
                  replace K3 := K3.behind b10
                  replace KX := KX.behind b10
                  replace SX := SX.kept (b10.block SB0 (by have := HSB.out.1; omega))
                  have BW10 := below_both HBW.out b10
                  have hb10 := b10.size
                  have c0 := K5.cell (i := 0) rfl
                  have c1 := K5.cell (i := 1) rfl
                  have c2 := K5.cell (i := 2) rfl
                  have t0 := K5.f 0
                  have t1 := K5.f 1
                  have t2 := K5.f 2
                  have hw8 := HW8.out
                  have hz0 := HSZ.out
                  have hz1 := HXW.out
                  have hsb := HSB.out
                  obtain ⟨S6, hRd6, hS6, ho6⟩ := hN6
                  have K5' := ms_put3 (x := .int .i64 R6) (y := .int .i64 C6) (z := .slice b6 n6 c6) K5
                  have K3' := ms_past3 (h := w8.heap.size) (x := .int .i64 R6) (y := .int .i64 C6) (z := .slice b6 n6 c6) K3 (by omega)
                  have KX' := ms_past3 (h := w8.heap.size) (x := .int .i64 R6) (y := .int .i64 C6) (z := .slice b6 n6 c6) KX (by omega)
                  have BW' := BW10.put3 (g := w8.heap.size) (by omega) (.int .i64 R6) (.int .i64 C6) (.slice b6 n6 c6)
                  have SX' := SX.kept (heap_put3 (g := w8.heap.size) (x := .int .i64 R6) (y := .int .i64 C6) (z := .slice b6 n6 c6) (by omega))
                  have A6' : Arg (((w10.setCell ⟨w8.heap.size, 0, none⟩ (.int .i64 R6)).setCell ⟨w8.heap.size, 1, none⟩ (.int .i64 C6)).setCell ⟨w8.heap.size, 2, none⟩ (.slice b6 n6 c6)) (.slice b6 n6 c6) (scalV α P) := by
                    rcases ho6 with ho6 | ho6
                    · refine ⟨w8.heap.size, by simp only [World.size_setCell]; omega, ?_⟩
                      rw [ho6] at hRd6 ⊢
                      obtain ⟨sa, sc, es, _, _⟩ := hRd6.slice
                      simp only [Value.slice.injEq] at es
                      have hnil : (scalV α P) = [] := List.length_eq_zero_iff.1 es.2.1.symm
                      rw [hnil]
                      exact .inl ⟨⟨_, _, rfl⟩, rfl⟩
                    · exact ⟨S6, by simp only [World.size_setCell]; exact hS6, hRd6.kept (heap_put3 (by omega))⟩
                  go_upto_region 20 with (fail)
                  generalize ((w10.setCell ⟨w8.heap.size, 0, none⟩ (.int .i64 R6)).setCell ⟨w8.heap.size, 1, none⟩ (.int .i64 C6)).setCell ⟨w8.heap.size, 2, none⟩ (.slice b6 n6 c6) = w11 at *
                  have HBW2 := Lib.hid BW'
                  have HA6 := Lib.hid A6'
                  clear K5 K3 KX SX BW10 hRd6 hS6 ho6 A6' BW' hS1 b10 c0 c1 c2 t0 t1 t2
                  have v0 := K3'.cell (i := 0) rfl
                  have v1 := K3'.cell (i := 1) rfl
                  have v2 := K3'.cell (i := 2) rfl
                  go_wp2_with fail
                  refine (HSC2.out _ HBW2.out).mono ?_
                  rintro e w12 ⟨R8, C8, b8, n8, c8, rfl, hN8, hR8, b12⟩
                  obtain ⟨j8, K8⟩ := mbox w12 #[.int .i64 R8, .int .i64 C8, .slice b8 n8 c8] 24 _ rfl
                  have b13 := below_both b12 j8
                  have A8 := Lib.hid (hN8.arg.behind j8)
                  replace HA6 := Lib.hid (HA6.out.behind b13)
                  have hx11 := KX'.lt
                  replace KX' := KX'.behind b13
                  replace K5' := K5'.behind b13
                  replace SX' := SX'.kept (b13.block SB0 (by omega))
                  have HBW3 := Lib.hid (below_both HBW2.out b13)
                  have HR8 := Lib.hid hR8
                  clear hN8 hR8 b12 b13 j8 v0 v1 v2 K3' HBW2
                  go_upto_region 21 with (fail)
                  generalize w12.alloc (.cells #[.int .i64 R8, .int .i64 C8, .slice b8 n8 c8] 24) = w13 at *
                  have hAD := HAD.out R6 C6 R8 C8 n6 n8 (scalV α P) [] HSL.out (fun y hy => by cases hy) _ _ _ _ _ HA6.out A8.out
                  generalize tellV (pairV plusU (scalV α P) []) (pairF R6 C6 n6 (scalV α P) R8 C8 n8 []) = e9 at *
                  generalize (if e9 = 0 then pairV plusU (scalV α P) [] else []) = L9 at *
                  have c0 := K5'.cell (i := 0) rfl
                  have c1 := K5'.cell (i := 1) rfl
                  have c2 := K5'.cell (i := 2) rfl
                  have v0 := K8.cell (i := 0) rfl
                  have v1 := K8.cell (i := 1) rfl
                  have v2 := K8.cell (i := 2) rfl
                  go_wp2_with fail
                  refine hAD.mono ?_
                  rintro e w14 ⟨R9, C9, b9, n9, c9, rfl, hN9, hR9, b14⟩
                  obtain ⟨j9, K9⟩ := mbox w14 #[.int .i64 R9, .int .i64 C9, .slice b9 n9 c9] 24 _ rfl
                  have b15 := below_both b14 j9
                  have A9 := Lib.hid (hN9.arg.behind j9)
                  have HR9 := Lib.hid hR9
                  have hx13 := KX'.lt
                  replace KX' := KX'.behind b15
                  replace SX' := SX'.kept (b15.block SB0 (by omega))
                  have HBW4 := Lib.hid (below_both HBW3.out b15)
                  have u0 := KX'.cell (i := 0) rfl
                  have u1 := KX'.cell (i := 1) rfl
                  have u2 := KX'.cell (i := 2) rfl
                  clear hN9 hR9 b14 b15 j9 c0 c1 c2 v0 v1 v2 hAD
                  have HT13 : E = 13 ∧ Z = [] := HE13.out
                  obtain rfl := HNX.out HT13.2
                  obtain rfl : E = 13 := HT13.1
                  clear HT13
                  go_wp2
                  go_ret
                  exact ⟨rfl, HBW4.out⟩
                · have hE8 : tellV (scalV β zs) 0 = 0 := by rw [HTE.out, hT]; rfl
                  rw [hE8, if_pos rfl] at HSC2
                  have HFF := Lib.hid (HF3.out hS hT)
                  have hEE : tellV (gaU α β P zs) 0 = E := by
                    rw [HUE.out, HQE.out]; unfold gaQ; rw [HP.out, hS, hT]
                    cases finB (gaU α β P zs) (gaU α β P zs).length <;> rfl
                  have HEE := Lib.hid hEE
                  have HW : Hid (E = 0 ∨ E = 13) := Lib.hid (by
                    rw [HQE.out]; unfold gaQ; split
                    · exact .inl rfl
                    · exact .inr rfl)
                  clear hE6 hS hE8 hT hEE
                  have c0 := K5.cell (i := 0) rfl
                  have c1 := K5.cell (i := 1) rfl
                  have c2 := K5.cell (i := 2) rfl
                  have t0 := K5.f 0
                  have t1 := K5.f 1
                  have t2 := K5.f 2
                  go_wp2_with fail
                  refine hS1.mono ?_
                  rintro e w10 ⟨R6, C6, b6, n6, c6, rfl, hN6, hR6, b10⟩
                  have HR6 := Lib.hid hR6
                  clear hR6
                  have hk4 := K5.lt
                  have hx4 := KX.lt
                  replace K5 := K5.behind b10
                  replace K3 := K3.behind b10
                  replace KX := KX.behind b10
                  replace SX := SX.kept (b10.block SB0 (by have := HSB.out.1; omega))
                  have BW10 := below_both HBW.out b10
                  have hb10 := b10.size
                  have c0 := K5.cell (i := 0) rfl
                  have c1 := K5.cell (i := 1) rfl
                  have c2 := K5.cell (i := 2) rfl
                  have t0 := K5.f 0
                  have t1 := K5.f 1
                  have t2 := K5.f 2
                  have hw8 := HW8.out
                  have hz0 := HSZ.out
                  have hz1 := HXW.out
                  have hsb := HSB.out
                  obtain ⟨S6, hRd6, hS6, ho6⟩ := hN6
                  have K5' := ms_put3 (x := .int .i64 R6) (y := .int .i64 C6) (z := .slice b6 n6 c6) K5
                  have K3' := ms_past3 (h := w8.heap.size) (x := .int .i64 R6) (y := .int .i64 C6) (z := .slice b6 n6 c6) K3 (by omega)
                  have KX' := ms_past3 (h := w8.heap.size) (x := .int .i64 R6) (y := .int .i64 C6) (z := .slice b6 n6 c6) KX (by omega)
                  have BW' := BW10.put3 (g := w8.heap.size) (by omega) (.int .i64 R6) (.int .i64 C6) (.slice b6 n6 c6)
                  have SX' := SX.kept (heap_put3 (g := w8.heap.size) (x := .int .i64 R6) (y := .int .i64 C6) (z := .slice b6 n6 c6) (by omega))
                  have A6' : Arg (((w10.setCell ⟨w8.heap.size, 0, none⟩ (.int .i64 R6)).setCell ⟨w8.heap.size, 1, none⟩ (.int .i64 C6)).setCell ⟨w8.heap.size, 2, none⟩ (.slice b6 n6 c6)) (.slice b6 n6 c6) (scalV α P) := by
                    rcases ho6 with ho6 | ho6
                    · refine ⟨w8.heap.size, by simp only [World.size_setCell]; omega, ?_⟩
                      rw [ho6] at hRd6 ⊢
                      obtain ⟨sa, sc, es, _, _⟩ := hRd6.slice
                      simp only [Value.slice.injEq] at es
                      have hnil : (scalV α P) = [] := List.length_eq_zero_iff.1 es.2.1.symm
                      rw [hnil]
                      exact .inl ⟨⟨_, _, rfl⟩, rfl⟩
                    · exact ⟨S6, by simp only [World.size_setCell]; exact hS6, hRd6.kept (heap_put3 (by omega))⟩
                  go_upto_region 20 with (fail)
                  generalize ((w10.setCell ⟨w8.heap.size, 0, none⟩ (.int .i64 R6)).setCell ⟨w8.heap.size, 1, none⟩ (.int .i64 C6)).setCell ⟨w8.heap.size, 2, none⟩ (.slice b6 n6 c6) = w11 at *
                  have HBW2 := Lib.hid BW'
                  have HA6 := Lib.hid A6'
                  clear K5 K3 KX SX BW10 hRd6 hS6 ho6 A6' BW' hS1 b10 c0 c1 c2 t0 t1 t2
                  have v0 := K3'.cell (i := 0) rfl
                  have v1 := K3'.cell (i := 1) rfl
                  have v2 := K3'.cell (i := 2) rfl
                  go_wp2_with fail
                  refine (HSC2.out _ HBW2.out).mono ?_
                  rintro e w12 ⟨R8, C8, b8, n8, c8, rfl, hN8, hR8, b12⟩
                  obtain ⟨j8, K8⟩ := mbox w12 #[.int .i64 R8, .int .i64 C8, .slice b8 n8 c8] 24 _ rfl
                  have b13 := below_both b12 j8
                  have A8 := Lib.hid (hN8.arg.behind j8)
                  replace HA6 := Lib.hid (HA6.out.behind b13)
                  have hx11 := KX'.lt
                  replace KX' := KX'.behind b13
                  replace K5' := K5'.behind b13
                  replace SX' := SX'.kept (b13.block SB0 (by omega))
                  have HBW3 := Lib.hid (below_both HBW2.out b13)
                  have HR8 := Lib.hid hR8
                  clear hN8 hR8 b12 b13 j8 v0 v1 v2 K3' HBW2
                  go_upto_region 21 with (fail)
                  generalize w12.alloc (.cells #[.int .i64 R8, .int .i64 C8, .slice b8 n8 c8] 24) = w13 at *
                  obtain ⟨rfl, rfl⟩ : R6 = (ar : Int) ∧ C6 = (bc : Int) := by first | exact HR6.out rfl | exact HR6.out trivial
                  obtain ⟨rfl, rfl⟩ : R8 = (ar : Int) ∧ C8 = (bc : Int) := by first | exact HR8.out rfl | exact HR8.out trivial
                  have hn6 : n6 = (scalV α P).length := by
                    obtain ⟨a8, c8, e8⟩ := HA6.out.slice
                    simp only [Value.slice.injEq] at e8
                    exact e8.2.1
                  have hn8 : n8 = (scalV β zs).length := by
                    obtain ⟨a8, c8, e8⟩ := A8.out.slice
                    simp only [Value.slice.injEq] at e8
                    exact e8.2.1
                  have hAD := HAD.out (ar : Int) (bc : Int) (ar : Int) (bc : Int) n6 n8 (scalV α P) (scalV β zs) HSL.out HTL.out _ _ _ _ _ HA6.out A8.out
                  rw [show pairF (ar : Int) (bc : Int) n6 (scalV α P) (ar : Int) (bc : Int) n8 (scalV β zs) = 0 by rw [hn6, hn8]; exact HFF.out, HUD.out, HEE.out, ← HQZ.out] at hAD
                  clear hn6 hn8
                  have c0 := K5'.cell (i := 0) rfl
                  have c1 := K5'.cell (i := 1) rfl
                  have c2 := K5'.cell (i := 2) rfl
                  have v0 := K8.cell (i := 0) rfl
                  have v1 := K8.cell (i := 1) rfl
                  have v2 := K8.cell (i := 2) rfl
                  go_wp2_with fail
                  refine hAD.mono ?_
                  rintro e w14 ⟨R9, C9, b9, n9, c9, rfl, hN9, hR9, b14⟩
                  obtain ⟨j9, K9⟩ := mbox w14 #[.int .i64 R9, .int .i64 C9, .slice b9 n9 c9] 24 _ rfl
                  have b15 := below_both b14 j9
                  have A9 := Lib.hid (hN9.arg.behind j9)
                  have HR9 := Lib.hid hR9
                  have hx13 := KX'.lt
                  replace KX' := KX'.behind b15
                  replace SX' := SX'.kept (b15.block SB0 (by omega))
                  have HBW4 := Lib.hid (below_both HBW3.out b15)
                  have u0 := KX'.cell (i := 0) rfl
                  have u1 := KX'.cell (i := 1) rfl
                  have u2 := KX'.cell (i := 2) rfl
                  clear hN9 hR9 b14 b15 j9 c0 c1 c2 v0 v1 v2 hAD
                  rcases HW.out with hE0 | hE0
                  · as_aux_lemma =>
                    subst hE0
                    obtain ⟨rfl, rfl⟩ := HR9.out rfl
                    obtain ⟨rfl, rfl⟩ := HRX.out rfl
                    have hZU : Z = gaU α β P zs := by have := HQZ.out; rwa [if_pos rfl] at this
                    subst hZU
                    have y0 := K9.cell (i := 0) rfl
                    have y1 := K9.cell (i := 1) rfl
                    have y2 := K9.cell (i := 2) rfl
                    have aX : Arg (w14.alloc (.cells #[.int .i64 (ar : Int), .int .i64 (bc : Int), .slice b9 n9 c9] 24)) (.slice bx nx kx) (gaU α β P zs) := ⟨SB0, Nat.lt_trans HSB.out.1 KX'.lt, SX'⟩
                    have hSM := shape_same (R := (ar : Int)) (C := (bc : Int)) (R' := (ar : Int)) (C' := (bc : Int)) aX A9.out HUL.out HUL.out
                    rw [sameM_self] at hSM
                    have HSM := Lib.hid hSM
                    clear hSM aX
                    go_wp2_with fail
                    refine HSM.out.mono ?_
                    rintro e w16 ⟨rfl, b16⟩
                    have HBZ := Lib.hid (below_both HBW4.out b16)
                    go_wp2
                    go_ret
                    exact ⟨rfl, HBZ.out⟩
                  · as_aux_lemma =>
                    have hZ0 := HNO.out (by rw [hE0]; decide)
                    obtain rfl := HNX.out hZ0
                    subst hE0
                    go_wp2
                    go_ret
                    exact ⟨rfl, HBW4.out⟩
          · as_aux_lemma =>
            obtain ⟨hee, hzz⟩ := HS.out hs
            obtain rfl := HNX.out hzz
            subst hee
            have c0 := K1.cell (i := 0) rfl
            have c1 := K1.cell (i := 1) rfl
            have c2 := K1.cell (i := 2) rfl
            have d0 := K2.cell (i := 0) rfl
            have d1 := K2.cell (i := 1) rfl
            have d2 := K2.cell (i := 2) rfl
            have v0 := K3.cell (i := 0) rfl
            have v1 := K3.cell (i := 1) rfl
            have v2 := K3.cell (i := 2) rfl
            have u0 := KX.cell (i := 0) rfl
            have u1 := KX.cell (i := 1) rfl
            have u2 := KX.cell (i := 2) rfl
            by_cases s1 : ac = br
            · have q1' : ((ac : Int) != (br : Int)) = false := by simp [s1]
              by_cases s2 : ar = p3
              · have q2' : ((ar : Int) != (p3 : Int)) = false := by simp [s2]
                have q3' : ((bc : Int) != (q3 : Int)) = true := bne_iff_ne.2 (fun h => hs ⟨s1, s2, by omega⟩)
                clear s1 s2 hs hzz HS HS4
                go_wp2
                go_ret
                exact ⟨rfl, HBW.out⟩
              · have q2' : ((ar : Int) != (p3 : Int)) = true := bne_iff_ne.2 (by omega)
                clear s1 s2 hs hzz HS HS4
                go_wp2
                go_ret
                exact ⟨rfl, HBW.out⟩
            · have q1' : ((ac : Int) != (br : Int)) = true := bne_iff_ne.2 (by omega)
              clear s1 hs hzz HS HS4
              go_wp2
              go_ret
              exact ⟨rfl, HBW.out⟩
end Go.Proofs.Ytdcebkhdnhdejaa
