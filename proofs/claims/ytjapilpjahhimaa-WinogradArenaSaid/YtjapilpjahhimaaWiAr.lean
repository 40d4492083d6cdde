/- Proved: for any two matrices, any two ints and any uint8 vernierlaw26.WinogradArena answers true and leaves them as they were: no more words are lent than a product needs, all are given back; with fewer there is no product, and nothing is lent. Conditions: none. -/
import Derived.Test.YtjapilpjahhimaaWiLw
import Derived.Test.YtjapilpjahhimaaRowLift
import Derived.LaidLaws
import Derived.SizedLaws
namespace Go.Proofs.Ytjapilpjahhimaa
open Go.RowKit Go.Shelf
set_option maxRecDepth 100000 in
set_option maxHeartbeats 16000000 in
theorem wi_mul0 {p q r cut m1 m2 cap1 cap2 : Nat} {a b : Option Addr} {xs ys : List Nat} {w : World} (hA : Arg w (.slice a m1 cap1) xs) (hB : Arg w (.slice b m2 cap2) ys) (lx : Low 18446744073709551616 xs) (ly : Low 18446744073709551616 ys)
    (fa : finM p q m1 xs = 0) (fb : finM q r m2 ys = 0) (hcut : 1 ≤ cut) :
    Calls Try.prog 22 #[.agg #[.int .i64 (p : Int), .int .i64 (q : Int), .slice a m1 cap1], .agg #[.int .i64 (q : Int), .int .i64 (r : Int), .slice b m2 cap2], .int .i64 (cut : Int), .pointer none] w fun e W' => e = .returned (.tuple #[.agg #[.int .i64 0, .int .i64 0, .slice none 0 0], .int .i64 14]) ∧ Below w.heap.size w W' := by
  obtain ⟨p1, p2, p3, p4, p5⟩ := mayM_iff.1 (finM_ok fa).1
  obtain ⟨q1, q2, q3, q4, q5⟩ := mayM_iff.1 (finM_ok fb).1
  have HF1 : Hid (∀ W, Below w.heap.size w W → _) := Lib.hid (fun W (hb : Below w.heap.size w W) => shape_finite (R := (p : Int)) (C := (q : Int)) (hA.behind hb) lx)
  have HF2 : Hid (∀ W, Below w.heap.size w W → _) := Lib.hid (fun W (hb : Below w.heap.size w W) => shape_finite (R := (q : Int)) (C := (r : Int)) (hB.behind hb) ly)
  rw [fa] at HF1
  rw [fb] at HF2
  have HND := Lib.hid (fun W => wi_need (m := p) (k := q) (n := r) (c := cut) (w := W) ⟨by omega, by omega⟩ ⟨by omega, by omega⟩ ⟨by omega, by omega⟩ hcut)
  have y0 : ∀ w : World, (Instr.index 71 (.agg #[.int .i64 (p : Int), .int .i64 (q : Int), .slice a m1 cap1, .int .i64 (q : Int), .int .i64 (r : Int), .slice b m2 cap2]) (.int .i64 0)).run Try.prog w = .ok (.agg #[.int .i64 (p : Int), .int .i64 (q : Int), .slice a m1 cap1]) w := fun _ => by kernel_rfl
  have y1 : ∀ w : World, (Instr.index 71 (.agg #[.int .i64 (p : Int), .int .i64 (q : Int), .slice a m1 cap1, .int .i64 (q : Int), .int .i64 (r : Int), .slice b m2 cap2]) (.int .i64 1)).run Try.prog w = .ok (.agg #[.int .i64 (q : Int), .int .i64 (r : Int), .slice b m2 cap2]) w := fun _ => by kernel_rfl
  obtain ⟨B0, G1, G2, hw1⟩ := vboxm w #[.int .i64 (p : Int), .int .i64 (q : Int), .slice a m1 cap1] #[.int .i64 (q : Int), .int .i64 (r : Int), .slice b m2 cap2] 24 24 _ rfl
  obtain ⟨j3, G3⟩ := mbox ((w.alloc (.cells #[.int .i64 (p : Int), .int .i64 (q : Int), .slice a m1 cap1] 24)).alloc (.cells #[.int .i64 (q : Int), .int .i64 (r : Int), .slice b m2 cap2] 24)) #[.int .i64 0, .int .i64 0, .slice none 0 0] 24 _ rfl
  replace G1 := G1.behind j3
  replace G2 := G2.behind j3
  replace B0 := below_both B0 j3
  simp only [World.size_alloc] at G3
  have c0 := G1.cell (i := 0) rfl
  have c1 := G1.cell (i := 1) rfl
  have c2 := G1.cell (i := 2) rfl
  have d0 := G2.cell (i := 0) rfl
  have d1 := G2.cell (i := 1) rfl
  have d2 := G2.cell (i := 2) rfl
  generalize needN p q r cut = nd at *
  clear hA hB lx ly fa fb hcut p1 p2 p3 p4 p5 q1 q2 q3 q4 q5 hw1 j3
  go_enter Try.func22, Try.ntmps22
  go_wp2
  generalize ((w.alloc (.cells #[.int .i64 (p : Int), .int .i64 (q : Int), .slice a m1 cap1] 24)).alloc (.cells #[.int .i64 (q : Int), .int .i64 (r : Int), .slice b m2 cap2] 24)).alloc (.cells #[.int .i64 0, .int .i64 0, .slice none 0 0] 24) = W0 at *
  go_loopw [21] (fun i wr => ∃ (k : Nat) (z : Int), k ≤ 2 ∧ z = k ∧ i = .int .i64 z ∧ Below W0.heap.size W0 wr) (fun i _ => 2 - (intOf i).toNat)
  case atStart => exact ⟨0, 0, by omega, rfl, rfl, Below.refl _ _⟩
  case round =>
    obtain ⟨k, z, hk, hz, rfl, hB⟩ := hrel
    rcases (show k = 0 ∨ k = 1 ∨ k = 2 by omega) with rfl | rfl | rfl
    · as_aux_lemma =>
      obtain rfl : z = 0 := hz
      have HFX := Lib.hid (HF1.out (wr.alloc (.cells #[.int .i64 (p : Int), .int .i64 (q : Int), .slice a m1 cap1] 24)) (below_both B0 (below_both hB (bel_new wr _))))
      have bA := bel_new wr (.cells #[.int .i64 (p : Int), .int .i64 (q : Int), .slice a m1 cap1] 24)
      go_wp2_with fail
      refine HFX.out.mono ?_
      rintro e w2 ⟨rfl, b2⟩
      go_wp2
      exact ⟨⟨1, 1, by omega, rfl, rfl, below_both hB (below_both bA b2)⟩, by simp [intOf]⟩
    · as_aux_lemma =>
      obtain rfl : z = 1 := hz
      have HFX := Lib.hid (HF2.out (wr.alloc (.cells #[.int .i64 (q : Int), .int .i64 (r : Int), .slice b m2 cap2] 24)) (below_both B0 (below_both hB (bel_new wr _))))
      have bA := bel_new wr (.cells #[.int .i64 (q : Int), .int .i64 (r : Int), .slice b m2 cap2] 24)
      go_wp2_with fail
      refine HFX.out.mono ?_
      rintro e w2 ⟨rfl, b2⟩
      go_wp2
      exact ⟨⟨2, 2, by omega, rfl, rfl, below_both hB (below_both bA b2)⟩, by simp [intOf]⟩
    · obtain rfl : z = 2 := hz
      obtain ⟨w1, rfl⟩ : ∃ wo, wo = wr := ⟨_, rfl⟩
      have BW := below_both B0 hB
      have hmk := un_mark (p := .pointer none) (W := w1) ar_nil
      have hrl := un_release (p := .pointer none) (W := w1) (n := 0) ar_nil
      replace G1 := G1.behind hB
      replace G2 := G2.behind hB
      replace G3 := G3.behind hB
      clear c0 c1 c2 d0 d1 d2 y0 y1 HF1 HF2 B0 hB
      have c0 := G1.cell (i := 0) rfl
      have c1 := G1.cell (i := 1) rfl
      have d0 := G2.cell (i := 0) rfl
      have d1 := G2.cell (i := 1) rfl
      go_wp2_with fail
      refine (HND.out _).mono ?_
      rintro e w2 ⟨rfl, rfl⟩
      go_wp2_with fail
      refine hmk.mono ?_
      rintro e w2 ⟨rfl, rfl⟩
      go_wp2_with fail
      refine hrl.mono ?_
      rintro e w2 ⟨rfl, rfl⟩
      clear hmk hrl c0 c1 d0 d1
      have g0 := G3.cell (i := 0) rfl
      have g1 := G3.cell (i := 1) rfl
      have g2 := G3.cell (i := 2) rfl
      have f0 := G3.f 0
      have f1 := G3.f 1
      have f2 := G3.f 2
      go_wp2
      exact bodyPost_ret (v := .tuple #[.agg #[.int .i64 0, .int .i64 0, .slice none 0 0], .int .i64 14]) (by simp [results, Try.results22, go_sem, g0, g1, g2]) rfl ⟨rfl, BW.put3 (by omega) _ _ _⟩
set_option maxRecDepth 100000 in
set_option maxHeartbeats 16000000 in
theorem wi_mulF3 {p q r cut m1 m2 cap1 cap2 b0 g s n u h : Nat} {a b : Option Addr} {xs ys ws : List Nat} {w : World} (hA : Arg w (.slice a m1 cap1) xs) (hB : Arg w (.slice b m2 cap2) ys) (lx : Low 18446744073709551616 xs) (ly : Low 18446744073709551616 ys)
    (fa : finM p q m1 xs = 0) (fb : finM q r m2 ys = 0) (hcut : 1 ≤ cut) (A : AN b0 w g s n u h ws) (hn : n < u + needN p q r cut) :
    Calls Try.prog 22 #[.agg #[.int .i64 (p : Int), .int .i64 (q : Int), .slice a m1 cap1], .agg #[.int .i64 (q : Int), .int .i64 (r : Int), .slice b m2 cap2], .int .i64 (cut : Int), .pointer (some ⟨g, 0, none⟩)] w fun e W' => e = .returned (.tuple #[.agg #[.int .i64 0, .int .i64 0, .slice none 0 0], .int .i64 14]) ∧ AN b0 W' g s n u h ws ∧ Kp g s w W' ∧ Io w W' := by
  obtain ⟨p1, p2, p3, p4, p5⟩ := mayM_iff.1 (finM_ok fa).1
  obtain ⟨q1, q2, q3, q4, q5⟩ := mayM_iff.1 (finM_ok fb).1
  have HF1 : Hid (∀ W, Below w.heap.size w W → _) := Lib.hid (fun W (hb : Below w.heap.size w W) => shape_finite (R := (p : Int)) (C := (q : Int)) (hA.behind hb) lx)
  have HF2 : Hid (∀ W, Below w.heap.size w W → _) := Lib.hid (fun W (hb : Below w.heap.size w W) => shape_finite (R := (q : Int)) (C := (r : Int)) (hB.behind hb) ly)
  rw [fa] at HF1
  rw [fb] at HF2
  have HND := Lib.hid (fun W => wi_need (m := p) (k := q) (n := r) (c := cut) (w := W) ⟨by omega, by omega⟩ ⟨by omega, by omega⟩ ⟨by omega, by omega⟩ hcut)
  have y0 : ∀ w : World, (Instr.index 71 (.agg #[.int .i64 (p : Int), .int .i64 (q : Int), .slice a m1 cap1, .int .i64 (q : Int), .int .i64 (r : Int), .slice b m2 cap2]) (.int .i64 0)).run Try.prog w = .ok (.agg #[.int .i64 (p : Int), .int .i64 (q : Int), .slice a m1 cap1]) w := fun _ => by kernel_rfl
  have y1 : ∀ w : World, (Instr.index 71 (.agg #[.int .i64 (p : Int), .int .i64 (q : Int), .slice a m1 cap1, .int .i64 (q : Int), .int .i64 (r : Int), .slice b m2 cap2]) (.int .i64 1)).run Try.prog w = .ok (.agg #[.int .i64 (q : Int), .int .i64 (r : Int), .slice b m2 cap2]) w := fun _ => by kernel_rfl
  obtain ⟨B0, G1, G2, hw1⟩ := vboxm w #[.int .i64 (p : Int), .int .i64 (q : Int), .slice a m1 cap1] #[.int .i64 (q : Int), .int .i64 (r : Int), .slice b m2 cap2] 24 24 _ rfl
  obtain ⟨j3, G3⟩ := mbox ((w.alloc (.cells #[.int .i64 (p : Int), .int .i64 (q : Int), .slice a m1 cap1] 24)).alloc (.cells #[.int .i64 (q : Int), .int .i64 (r : Int), .slice b m2 cap2] 24)) #[.int .i64 0, .int .i64 0, .slice none 0 0] 24 _ rfl
  replace G1 := G1.behind j3
  replace G2 := G2.behind j3
  replace B0 := below_both B0 j3
  simp only [World.size_alloc] at G3
  have c0 := G1.cell (i := 0) rfl
  have c1 := G1.cell (i := 1) rfl
  have c2 := G1.cell (i := 2) rfl
  have d0 := G2.cell (i := 0) rfl
  have d1 := G2.cell (i := 1) rfl
  have d2 := G2.cell (i := 2) rfl
  have HLT : Hid (g < w.heap.size ∧ s < w.heap.size) := Lib.hid ⟨A.box.lt, A.row.lt⟩
  have HAN := Lib.hid A
  obtain ⟨nd, hnd⟩ : ∃ x, x = needN p q r cut := ⟨_, rfl⟩
  rw [← hnd] at HND hn
  have hnl : decide (((n : Int) - (u : Int)) < (nd : Int)) = true := decide_eq_true (by omega)
  clear A hn hnd
  clear hA hB lx ly fa fb hcut p1 p2 p3 p4 p5 q1 q2 q3 q4 q5 hw1 j3
  go_enter Try.func22, Try.ntmps22
  go_wp2
  generalize ((w.alloc (.cells #[.int .i64 (p : Int), .int .i64 (q : Int), .slice a m1 cap1] 24)).alloc (.cells #[.int .i64 (q : Int), .int .i64 (r : Int), .slice b m2 cap2] 24)).alloc (.cells #[.int .i64 0, .int .i64 0, .slice none 0 0] 24) = W0 at *
  go_loopw [21] (fun i wr => ∃ (k : Nat) (z : Int), k ≤ 2 ∧ z = k ∧ i = .int .i64 z ∧ Below W0.heap.size W0 wr) (fun i _ => 2 - (intOf i).toNat)
  case atStart => exact ⟨0, 0, by omega, rfl, rfl, Below.refl _ _⟩
  case round =>
    obtain ⟨k, z, hk, hz, rfl, hB⟩ := hrel
    rcases (show k = 0 ∨ k = 1 ∨ k = 2 by omega) with rfl | rfl | rfl
    · as_aux_lemma =>
      obtain rfl : z = 0 := hz
      have HFX := Lib.hid (HF1.out (wr.alloc (.cells #[.int .i64 (p : Int), .int .i64 (q : Int), .slice a m1 cap1] 24)) (below_both B0 (below_both hB (bel_new wr _))))
      have bA := bel_new wr (.cells #[.int .i64 (p : Int), .int .i64 (q : Int), .slice a m1 cap1] 24)
      go_wp2_with fail
      refine HFX.out.mono ?_
      rintro e w2 ⟨rfl, b2⟩
      go_wp2
      exact ⟨⟨1, 1, by omega, rfl, rfl, below_both hB (below_both bA b2)⟩, by simp [intOf]⟩
    · as_aux_lemma =>
      obtain rfl : z = 1 := hz
      have HFX := Lib.hid (HF2.out (wr.alloc (.cells #[.int .i64 (q : Int), .int .i64 (r : Int), .slice b m2 cap2] 24)) (below_both B0 (below_both hB (bel_new wr _))))
      have bA := bel_new wr (.cells #[.int .i64 (q : Int), .int .i64 (r : Int), .slice b m2 cap2] 24)
      go_wp2_with fail
      refine HFX.out.mono ?_
      rintro e w2 ⟨rfl, b2⟩
      go_wp2
      exact ⟨⟨2, 2, by omega, rfl, rfl, below_both hB (below_both bA b2)⟩, by simp [intOf]⟩
    · obtain rfl : z = 2 := hz
      obtain ⟨w1, rfl⟩ : ∃ wo, wo = wr := ⟨_, rfl⟩
      have BW := below_both B0 hB
      have hmk := ar_mark (HAN.out.behind BW)
      have hrl := ar_release (HAN.out.behind BW) (Nat.le_refl u)
      replace G1 := G1.behind hB
      replace G2 := G2.behind hB
      replace G3 := G3.behind hB
      clear c0 c1 c2 d0 d1 d2 y0 y1 HF1 HF2 B0 hB
      have c0 := G1.cell (i := 0) rfl
      have c1 := G1.cell (i := 1) rfl
      have d0 := G2.cell (i := 0) rfl
      have d1 := G2.cell (i := 1) rfl
      go_wp2_with fail
      refine (HND.out _).mono ?_
      rintro e w2 ⟨rfl, rfl⟩
      go_wp2_with fail
      refine hmk.mono ?_
      rintro e w2 ⟨rfl, rfl⟩
      go_wp2_with fail
      refine hrl.mono ?_
      rintro e w2 ⟨rfl, A2, k2, kb2⟩
      replace G3 := k2.ms G3 (by have := HLT.out; omega) (by have := HLT.out; omega)
      have hlf := ar_left A2
      clear hmk hrl c0 c1 d0 d1
      go_wp2_with fail
      refine hlf.mono ?_
      rintro e w3 ⟨rfl, b3⟩
      replace A2 := A2.behind b3
      replace G3 := G3.behind b3
      have hkp : Kp g s w w3 := ⟨Nat.le_trans BW.size (Nat.le_trans k2.size b3.size), fun j hj h1 h2 => (b3.block j (by have := BW.size; have := k2.size; omega)).trans ((k2.keep j (by have := BW.size; omega) h1 h2).trans (BW.block j hj))⟩
      have hio : Io w w3 := ((Io.of BW).trans (Io.of kb2)).trans (Io.of b3)
      have HKI := Lib.hid (And.intro hkp hio)
      clear hlf k2 kb2 b3 hkp hio
      have g0 := G3.cell (i := 0) rfl
      have g1 := G3.cell (i := 1) rfl
      have g2 := G3.cell (i := 2) rfl
      have f0 := G3.f 0
      have f1 := G3.f 1
      have f2 := G3.f 2
      go_wp2
      exact bodyPost_ret (v := .tuple #[.agg #[.int .i64 0, .int .i64 0, .slice none 0 0], .int .i64 14]) (by simp [results, Try.results22, go_sem, g0, g1, g2]) rfl ⟨rfl, ((A2.put (p := ⟨w.heap.size + 1 + 1, 0, none⟩) (by show g ≠ w.heap.size + 1 + 1; have := HLT.out; omega) (by show s ≠ w.heap.size + 1 + 1; have := HLT.out; omega) _).put (p := ⟨w.heap.size + 1 + 1, 1, none⟩) (by show g ≠ w.heap.size + 1 + 1; have := HLT.out; omega) (by show s ≠ w.heap.size + 1 + 1; have := HLT.out; omega) _).put (p := ⟨w.heap.size + 1 + 1, 2, none⟩) (by show g ≠ w.heap.size + 1 + 1; have := HLT.out; omega) (by show s ≠ w.heap.size + 1 + 1; have := HLT.out; omega) _, ((HKI.out.1.fresh (by omega) _).fresh (by omega) _).fresh (by omega) _, ((HKI.out.2.trans (Io.set _ _ _)).trans (Io.set _ _ _)).trans (Io.set _ _ _)⟩
theorem l26_may {R C R2 C2 cut : Int} {a b : Option Addr} {m1 m2 cap1 cap2 : Nat} {xs ys : List Nat} {w : World} (hA : Arg w (.slice a m1 cap1) xs) (hB : Arg w (.slice b m2 cap2) ys) (lx : Low 18446744073709551616 xs) (ly : Low 18446744073709551616 ys) :
    Calls Try.prog 13 #[.agg #[.int .i64 R, .int .i64 C, .slice a m1 cap1], .agg #[.int .i64 R2, .int .i64 C2, .slice b m2 cap2], .int .i64 cut] w fun e W' => e = .returned (.int .i64 (mayE R C R2 C2 m1 m2 xs ys cut)) ∧ Below w.heap.size w W' := by
  have HF1 : Hid (∀ W, Below w.heap.size w W → _) := Lib.hid (fun W (hb : Below w.heap.size w W) => shape_finite (R := R) (C := C) (hA.behind hb) lx)
  have HF2 : Hid (∀ W, Below w.heap.size w W → _) := Lib.hid (fun W (hb : Below w.heap.size w W) => shape_finite (R := R2) (C := C2) (hB.behind hb) ly)
  obtain ⟨B, G1, G2, hw1⟩ := vboxm w #[.int .i64 R, .int .i64 C, .slice a m1 cap1] #[.int .i64 R2, .int .i64 C2, .slice b m2 cap2] 24 24 _ rfl
  obtain ⟨EE, hEE⟩ : ∃ x, x = mayE R C R2 C2 m1 m2 xs ys cut := ⟨_, rfl⟩
  rw [← hEE]
  unfold mayE at hEE
  generalize finM R C m1 xs = E1 at *
  generalize finM R2 C2 m2 ys = E2 at *
  have HEE := Lib.hid hEE
  have c0 := G1.cell (i := 0) rfl
  have c1 := G1.cell (i := 1) rfl
  have c2 := G1.cell (i := 2) rfl
  have d0 := G2.cell (i := 0) rfl
  have d1 := G2.cell (i := 1) rfl
  have d2 := G2.cell (i := 2) rfl
  clear hEE hA hB lx ly hw1
  go_enter Try.func13, Try.ntmps13
  go_wp2_with fail
  generalize (w.alloc (.cells #[.int .i64 R, .int .i64 C, .slice a m1 cap1] 24)).alloc (.cells #[.int .i64 R2, .int .i64 C2, .slice b m2 cap2] 24) = W0 at *
  refine (HF1.out _ B).mono ?_
  rintro e w1 ⟨rfl, b1⟩
  replace B := below_both B b1
  replace G1 := G1.behind b1
  replace G2 := G2.behind b1
  have c0 := G1.cell (i := 0) rfl
  have c1 := G1.cell (i := 1) rfl
  have c2 := G1.cell (i := 2) rfl
  have d0 := G2.cell (i := 0) rfl
  have d1 := G2.cell (i := 1) rfl
  have d2 := G2.cell (i := 2) rfl
  clear b1
  by_cases h1 : E1 = 0
  · have q1 : (E1 != 0) = false := by simp [h1]
    have H1 := Lib.hid h1
    clear h1
    go_wp2_with fail
    refine (HF2.out _ B).mono ?_
    rintro e w2 ⟨rfl, b1⟩
    replace B := below_both B b1
    replace G1 := G1.behind b1
    replace G2 := G2.behind b1
    have c0 := G1.cell (i := 0) rfl
    have c1 := G1.cell (i := 1) rfl
    have c2 := G1.cell (i := 2) rfl
    have d0 := G2.cell (i := 0) rfl
    have d1 := G2.cell (i := 1) rfl
    have d2 := G2.cell (i := 2) rfl
    clear b1
    by_cases h2 : E2 = 0
    · have q2 : (E2 != 0) = false := by simp [h2]
      have H2 := Lib.hid h2
      clear h2
      by_cases h3 : C = R2
      · have q3 : (C != R2) = false := by simp [h3]
        by_cases h4 : cut < 1
        · have hee : EE = 4 := by rw [HEE.out, if_neg (by rw [H1.out]; decide), if_neg (by rw [H2.out]; decide), if_neg (by rw [h3]; simp), if_pos h4]
          subst hee
          clear h3
          go_wp2
          go_ret
          exact ⟨rfl, B⟩
        · have hee : EE = 0 := by rw [HEE.out, if_neg (by rw [H1.out]; decide), if_neg (by rw [H2.out]; decide), if_neg (by rw [h3]; simp), if_neg h4]
          subst hee
          clear h3
          go_wp2
          go_ret
          exact ⟨rfl, B⟩
      · have q3 : (C != R2) = true := bne_iff_ne.2 h3
        have hee : EE = 11 := by rw [HEE.out, if_neg (by rw [H1.out]; decide), if_neg (by rw [H2.out]; decide), if_pos h3]
        subst hee
        clear h3
        go_wp2
        go_ret
        exact ⟨rfl, B⟩
    · have q2 : (E2 != 0) = true := bne_iff_ne.2 h2
      have hee : EE = E2 := by rw [HEE.out, if_neg (by rw [H1.out]; decide), if_pos h2]
      subst hee
      clear h2
      go_wp2_with fail
      refine (HF2.out _ B).mono ?_
      rintro e w3 ⟨rfl, b1⟩
      replace B := below_both B b1
      go_wp2
      go_ret
      exact ⟨rfl, B⟩
  · have q1 : (E1 != 0) = true := bne_iff_ne.2 h1
    have hee : EE = E1 := by rw [HEE.out, if_pos h1]
    subst hee
    clear h1
    go_wp2_with fail
    refine (HF1.out _ B).mono ?_
    rintro e w3 ⟨rfl, b1⟩
    replace B := below_both B b1
    go_wp2
    go_ret
    exact ⟨rfl, B⟩
theorem kp_below {n g s : Nat} {W W' : World} (k : Kp g s W W') (io : Io W W') (hg : n ≤ g) (hs : n ≤ s) (hn : n ≤ W.heap.size) : Below n W W' :=
  ⟨io.1, io.2.1, io.2.2, k.size, fun j hj => k.keep j (by omega) (by omega) (by omega)⟩
theorem tmod_in (z : Int) : -300 < z.tmod 300 ∧ z.tmod 300 < 300 := by
  rcases Int.le_total 0 z with h | h
  · rw [Int.tmod_eq_emod_of_nonneg h]; omega
  · obtain ⟨y, rfl⟩ : ∃ y, z = -y := ⟨-z, by omega⟩
    rw [Int.neg_tmod, Int.tmod_eq_emod_of_nonneg (by omega)]; omega
theorem tmod_up (z : Int) (h : 0 ≤ z) : 0 ≤ z.tmod 300 ∧ z.tmod 300 < 300 := by
  rw [Int.tmod_eq_emod_of_nonneg h]; omega
theorem clr_low {ws : List Nat} {o P : Nat} (h : Low 18446744073709551616 ws) : Low 18446744073709551616 (clrL ws o P) := fun x hx => by
  unfold clrL at hx
  rcases List.mem_append.1 hx with hx | hx
  · rcases List.mem_append.1 hx with hx | hx
    · exact h x (List.mem_of_mem_take hx)
    · rw [List.eq_of_mem_replicate hx]; decide
  · exact h x (List.mem_of_mem_drop hx)
theorem ar_take1 {b g s n k : Nat} {ws : List Nat} {W : World} (A : AN b W g s n 0 0 ws) (lw : Low 18446744073709551616 ws) (hk : k ≤ 64) :
    Calls Try.prog 19 #[.pointer (some ⟨g, 0, none⟩), .int .i64 1, .int .i64 (k : Int)] W fun e W' => ∃ v u ws', e = .returned v ∧ AN b W' g s n u u ws' ∧ Low 18446744073709551616 ws' ∧ Kp g s W W' ∧ Below b W W' := by
  by_cases h : 0 + k ≤ n
  · refine (ar_take A (r := 1) (c := k) (P := k) (by omega) hk (Nat.one_mul k) h).mono ?_
    rintro e W' ⟨rfl, A', kp, hb⟩
    have e1 : max 0 (0 + k) = 0 + k := by omega
    rw [e1] at A'
    exact ⟨_, _, _, rfl, A', clr_low lw, kp, hb⟩
  · refine (ar_take_full A (r := 1) (c := k) (P := k) (by omega) hk (Nat.one_mul k) h).mono ?_
    rintro e W' ⟨rfl, hb⟩
    have hs : b ≤ W.heap.size := by have := A.bg; have := A.box.lt; omega
    exact ⟨_, _, _, rfl, A.behind hb, lw, Kp.of hb, hb.mono hs⟩
/-- what Mul's error is, with u words of n lent -/
def muE (R C R2 C2 : Int) (m1 m2 : Nat) (xs ys : List Nat) (cut : Int) (u n : Nat) : Int := if mayE R C R2 C2 m1 m2 xs ys cut = 0 ∧ n < u + needN R.toNat C.toNat C2.toNat cut.toNat then 14 else prE R C R2 C2 m1 m2 xs ys cut
theorem wi_mulU {R C R2 C2 cut : Int} {a b : Option Addr} {m1 m2 cap1 cap2 b0 g s n u h : Nat} {xs ys ws : List Nat} {w0 w : World} (hA0 : Arg w0 (.slice a m1 cap1) xs) (hB0 : Arg w0 (.slice b m2 cap2) ys) (lx : Low 18446744073709551616 xs) (ly : Low 18446744073709551616 ys) (lw : Low 18446744073709551616 ws)
    (hb : Below w0.heap.size w0 w) (A : AN b0 w g s n u h ws) (hw0 : w0.heap.size ≤ b0) :
    Calls Try.prog 22 #[.agg #[.int .i64 R, .int .i64 C, .slice a m1 cap1], .agg #[.int .i64 R2, .int .i64 C2, .slice b m2 cap2], .int .i64 cut, .pointer (some ⟨g, 0, none⟩)] w fun e W' => Told R C2 (R.toNat * C2.toNat) (muE R C R2 C2 m1 m2 xs ys cut u n) (prL R C C2 xs ys cut) w.heap.size e W' ∧ (∃ h' ws', AN b0 W' g s n u h' ws' ∧ h ≤ h' ∧ (mayE R C R2 C2 m1 m2 xs ys cut = 0 → u + needN R.toNat C.toNat C2.toNat cut.toNat ≤ n → h' ≤ max h (u + needN R.toNat C.toNat C2.toNat cut.toNat)) ∧ (¬ (mayE R C R2 C2 m1 m2 xs ys cut = 0 ∧ u + needN R.toNat C.toNat C2.toNat cut.toNat ≤ n) → h' = h)) ∧ Kp g s w W' ∧ Io w W' := by
  have hA := hA0.behind hb
  have hB := hB0.behind hb
  by_cases hE : mayE R C R2 C2 m1 m2 xs ys cut = 0
  · obtain ⟨e1, e2, rfl, e4⟩ := mayE_zero hE
    obtain ⟨p1, p2, p3, p4, p5⟩ := mayM_iff.1 (finM_ok e1).1
    obtain ⟨q1, q2, q3, q4, q5⟩ := mayM_iff.1 (finM_ok e2).1
    obtain ⟨R, rfl⟩ : ∃ r : Nat, R = r := ⟨R.toNat, by omega⟩
    obtain ⟨C, rfl⟩ : ∃ r : Nat, C = r := ⟨C.toNat, by omega⟩
    obtain ⟨C2, rfl⟩ : ∃ r : Nat, C2 = r := ⟨C2.toNat, by omega⟩
    obtain ⟨cut, rfl⟩ : ∃ r : Nat, cut = r := ⟨cut.toNat, by omega⟩
    simp only [Int.toNat_natCast]
    by_cases hN : u + needN R C C2 cut ≤ n
    · have hm1 : 0 < m1 := by
        have h0 : (0 : Int) < (R : Int) * (C : Int) := Int.mul_pos (by omega) (by omega)
        omega
      have hm2 : 0 < m2 := by
        have h0 : (0 : Int) < (C : Int) * (C2 : Int) := Int.mul_pos (by omega) (by omega)
        omega
      obtain ⟨S2, o2, rfl, la, ca, aA⟩ := argAt_of hA0 hm1
      obtain ⟨S3, o3, rfl, lb, cb, aB⟩ := argAt_of hB0 hm2
      have bg := A.bg
      have bs := A.bs
      have l2 := aA.1
      have l3 := aB.1
      rw [show muE R C C C2 m1 m2 xs ys cut u n = wiE cut R C C2 xs ys by
        unfold muE
        rw [if_neg (by simp only [Int.toNat_natCast]; omega)]
        unfold prE
        rw [if_neg (by simp [hE])]
        simp only [Int.toNat_natCast]]
      rw [show prL R C C2 xs ys cut = prodS cut R C C2 xs ys by unfold prL; simp only [Int.toNat_natCast]]
      refine (wi_mulY (cut := cut) (aA.behind hb) (aB.behind hb) la lb ca cb lx ly lw e1 e2 (by omega) A (by omega) (by omega) hN).mono ?_
      rintro e W' ⟨k1, ⟨h', ws', k2, k5, k6⟩, k3, k4⟩
      exact ⟨k1, ⟨h', ws', k2, k5, fun _ _ => k6, fun hh => absurd ⟨hE, hN⟩ hh⟩, k3, k4⟩
    · rw [show muE R C C C2 m1 m2 xs ys cut u n = 14 by
        unfold muE
        rw [if_pos ⟨hE, by simp only [Int.toNat_natCast]; omega⟩]]
      refine (wi_mulF3 (cut := cut) hA hB lx ly e1 e2 (by omega) A (by omega)).mono ?_
      rintro e W' ⟨rfl, k1, k2, k3⟩
      exact ⟨⟨0, 0, none, 0, 0, rfl, .inr ⟨by decide, rfl, rfl, rfl, rfl, rfl⟩⟩, ⟨h, ws, k1, Nat.le_refl _, fun _ hh => absurd hh hN, fun _ => rfl⟩, k2, k3⟩
  · rw [show muE R C R2 C2 m1 m2 xs ys cut u n = mayE R C R2 C2 m1 m2 xs ys cut by
      unfold muE prE
      rw [if_neg (fun hh => hE hh.1), if_pos hE]]
    refine (wi_mulE (pw := .pointer (some ⟨g, 0, none⟩)) hA hB lx ly hE).mono ?_
    rintro e W' ⟨rfl, hbb⟩
    exact ⟨⟨0, 0, none, 0, 0, rfl, .inr ⟨hE, rfl, rfl, rfl, rfl, rfl⟩⟩, ⟨h, ws, A.behind hbb, Nat.le_refl _, fun hh => absurd hh hE, fun _ => rfl⟩, Kp.of hbb, Io.of hbb⟩
theorem told_argA {R C : Int} {m : Nat} {E : Int} {L : List Nat} {n : Nat} {e : Ending} {W' : World} (hp : 0 < W'.heap.size) (h : Told R C m E L n e W') : ∃ R2 C2 b q c, e = .returned (.tuple #[.agg #[.int .i64 R2, .int .i64 C2, .slice b q c], .int .i64 E]) ∧ Arg W' (.slice b q c) (if E = 0 then L else []) ∧ ((E = 0 → R2 = R ∧ C2 = C) ∧ (E ≠ 0 → R2 = 0 ∧ C2 = 0)) := by
  obtain ⟨r, c, b, q, cc, he, hx⟩ := h
  rcases hx with ⟨h0, h1, h2, _, hN⟩ | ⟨h0, h1, h2, h3, h4, h5⟩
  · exact ⟨r, c, b, q, cc, he, by rw [if_pos h0]; exact hN.arg, ⟨fun _ => ⟨h1, h2⟩, fun h => absurd h0 h⟩⟩
  · refine ⟨r, c, b, q, cc, he, ?_, ⟨fun h => absurd h h0, fun _ => ⟨h1, h2⟩⟩⟩
    rw [if_neg h0, h3, h4, h5]
    exact ⟨0, hp, .inl ⟨⟨_, _, rfl⟩, rfl⟩⟩
set_option maxRecDepth 100000 in
set_option maxHeartbeats 16000000 in
theorem winogradArena_calls {R C R2 C2 cut wd : Int} {lent m1 m2 cap1 cap2 : Nat} {a b : Option Addr} {xs ys : List Nat} {w : World} (hA : Arg w (.slice a m1 cap1) xs) (hB : Arg w (.slice b m2 cap2) ys) (lx : Low 18446744073709551616 xs) (ly : Low 18446744073709551616 ys) (h1 : -9223372036854775808 ≤ wd) (h2 : wd < 9223372036854775808) (hle : lent < 256) :
    Calls Try.prog 5 #[.agg #[.int .i64 R, .int .i64 C, .slice a m1 cap1], .agg #[.int .i64 R2, .int .i64 C2, .slice b m2 cap2], .int .i64 cut, .int .i64 wd, .int .u8 (lent : Int)] w fun e W' => e = .returned (.bool true) ∧ Below w.heap.size w W' := by
  have hpos : 0 < w.heap.size := by obtain ⟨S, hS, _⟩ := hA; omega
  have hal := l26_alive
  have tm := tmod_in wd
  have tu := tmod_up (wd.tmod 300 + 300) (by omega)
  obtain ⟨N, hN⟩ : ∃ N : Nat, (wd.tmod 300 + 300).tmod 300 = N := ⟨((wd.tmod 300 + 300).tmod 300).toNat, by omega⟩
  have hN3 : N < 300 := by omega
  have hw1 : IntKind.i64.wrap (wd.tmod 300 + 300) = wd.tmod 300 + 300 := IntWalk.i64_in _ (by omega)
  obtain ⟨K, hK⟩ : ∃ K : Nat, (lent : Int) % 9 = K := ⟨lent % 9, by omega⟩
  have hK8 : K ≤ 8 := by omega
  have HMAY : Hid (∀ W, Below w.heap.size w W → _) := Lib.hid (fun W (h : Below w.heap.size w W) => l26_may (R := R) (C := C) (R2 := R2) (C2 := C2) (cut := cut) (hA.behind h) (hB.behind h) lx ly)
  have HMU : Hid (∀ (W : World) (b0 g s n u h : Nat) (ws : List Nat), Low 18446744073709551616 ws → Below w.heap.size w W → AN b0 W g s n u h ws → w.heap.size ≤ b0 → _) := Lib.hid (fun W b0 g s n u h ws lw hb A hw0 => wi_mulU (R := R) (C := C) (R2 := R2) (C2 := C2) (cut := cut) hA hB lx ly lw hb A hw0)
  have HPR : Hid (∀ W, Below w.heap.size w W → _) := Lib.hid (fun W (h : Below w.heap.size w W) => wi_product (R := R) (C := C) (R2 := R2) (C2 := C2) (cut := cut) (hA.behind h) (hB.behind h) lx ly)
  have HZN : Hid (mayE R C R2 C2 m1 m2 xs ys cut = 0 → (∀ W, Below w.heap.size w W → Calls Try.prog 22 #[.agg #[.int .i64 R, .int .i64 C, .slice a m1 cap1], .agg #[.int .i64 R2, .int .i64 C2, .slice b m2 cap2], .int .i64 cut, .pointer none] W fun e W' => e = .returned (.tuple #[.agg #[.int .i64 0, .int .i64 0, .slice none 0 0], .int .i64 14]) ∧ Below W.heap.size W W') ∧ ((needN R.toNat C.toNat C2.toNat cut.toNat : Nat) : Int) ≤ 5462 ∧ ∀ W, Calls Try.prog 24 #[.int .i64 R, .int .i64 C, .int .i64 C2, .int .i64 cut] W fun e W' => e = .returned (.int .i64 ((needN R.toNat C.toNat C2.toNat cut.toNat : Nat) : Int)) ∧ W = W') := Lib.hid (fun hE => by
    obtain ⟨e1, e2, rfl, e4⟩ := mayE_zero hE
    obtain ⟨p1, p2, p3, p4, p5⟩ := mayM_iff.1 (finM_ok e1).1
    obtain ⟨q1, q2, q3, q4, q5⟩ := mayM_iff.1 (finM_ok e2).1
    obtain ⟨R, rfl⟩ : ∃ r : Nat, R = r := ⟨R.toNat, by omega⟩
    obtain ⟨C, rfl⟩ : ∃ r : Nat, C = r := ⟨C.toNat, by omega⟩
    obtain ⟨C2, rfl⟩ : ∃ r : Nat, C2 = r := ⟨C2.toNat, by omega⟩
    obtain ⟨cut, rfl⟩ : ∃ r : Nat, cut = r := ⟨cut.toNat, by omega⟩
    simp only [Int.toNat_natCast]
    refine ⟨fun W hb => wi_mul0 (hA.behind hb) (hB.behind hb) lx ly e1 e2 (by omega), ?_, fun W => l26_need (by omega) R C C2 W (by omega) (by omega) (by omega)⟩
    have := needN_top (c := cut) (m := R) (k := C) (n := C2) (by omega) (by omega) (by omega)
    omega)
  obtain ⟨ND, hND⟩ : ∃ x, x = needN R.toNat C.toNat C2.toNat cut.toNat := ⟨_, rfl⟩
  obtain ⟨ME, hME⟩ : ∃ x, x = mayE R C R2 C2 m1 m2 xs ys cut := ⟨_, rfl⟩
  have HPE : Hid (ME ≠ 0 → prE R C R2 C2 m1 m2 xs ys cut = ME) := Lib.hid (fun h => by unfold prE; rw [hME] at h ⊢; rw [if_pos h])
  have HMD : Hid (∀ u n, (muE R C R2 C2 m1 m2 xs ys cut u n = if ME = 0 ∧ n < u + ND then 14 else prE R C R2 C2 m1 m2 xs ys cut)) := Lib.hid (fun u n => by unfold muE; rw [hME, hND])
  unfold muE at HMU
  rw [← hND, ← hME] at HZN HMU
  rw [← hME] at HMAY
  have HPL : Hid (ME = 0 → (prL R C C2 xs ys cut).length ≤ 4096) := Lib.hid (fun h => by
    rw [hME] at h
    obtain ⟨e1, e2, rfl, e4⟩ := mayE_zero h
    obtain ⟨p1, p2, p3, p4, p5⟩ := mayM_iff.1 (finM_ok e1).1
    obtain ⟨q1, q2, q3, q4, q5⟩ := mayM_iff.1 (finM_ok e2).1
    unfold prL prodS
    rw [rowV_length]
    have : R.toNat * C2.toNat ≤ 64 * 64 := Nat.mul_le_mul (by omega) (by omega)
    omega)
  obtain ⟨B, G1, G2, hw0⟩ := vboxm w #[.int .i64 R, .int .i64 C, .slice a m1 cap1] #[.int .i64 R2, .int .i64 C2, .slice b m2 cap2] 24 24 _ rfl
  have HA := Lib.hid (And.intro hA hB)
  clear hA hB lx ly hND hME hw0 tm tu h1 h2
  have c0 := G1.cell (i := 0) rfl
  have c1 := G1.cell (i := 1) rfl
  have c2 := G1.cell (i := 2) rfl
  have d0 := G2.cell (i := 0) rfl
  have d1 := G2.cell (i := 1) rfl
  have d2 := G2.cell (i := 2) rfl
  go_enter Try.func5, Try.ntmps5
  go_wp2_with fail
  generalize (w.alloc (.cells #[.int .i64 R, .int .i64 C, .slice a m1 cap1] 24)).alloc (.cells #[.int .i64 R2, .int .i64 C2, .slice b m2 cap2] 24) = W0 at *
  refine (hal _).mono ?_
  rintro e w1 ⟨rfl, b1⟩
  replace B := below_both B b1
  replace G1 := G1.behind b1
  replace G2 := G2.behind b1
  clear b1 hal c0 c1 c2 d0 d1 d2
  go_wp2_with fail
  have hs1 : w.heap.size ≤ w1.heap.size := B.size
  have hn1 := G2.lt
  refine (ar_new (n := N) rfl (by omega)).mono ?_
  rintro e w2 ⟨g, s, rfl, A, b2⟩
  replace B := below_both B b2
  replace G1 := G1.behind b2
  replace G2 := G2.behind b2
  have HNE : Hid ((w.heap.size ≠ g ∧ w.heap.size ≠ s) ∧ (w.heap.size + 1 ≠ g ∧ w.heap.size + 1 ≠ s)) := Lib.hid (by have := A.bg; have := A.bs; omega)
  generalize w1.heap.size = b0 at *
  clear b2 hn1
  have hT := ar_take1 (k := K) A (low_rep0 N) (by omega)
  go_wp2_with fail
  refine hT.mono ?_
  rintro e w3 ⟨v, u, ws, rfl, A3, lw, kp, hb⟩
  replace G1 := kp.ms G1 HNE.out.1.1 HNE.out.1.2
  replace G2 := kp.ms G2 HNE.out.2.1 HNE.out.2.2
  replace B := B.trans (hb.mono hs1)
  have hmk := ar_mark A3
  clear hT A kp hb hK hK8
  go_wp2_with fail
  refine hmk.mono ?_
  rintro e w4 ⟨rfl, rfl⟩
  have hlf := ar_left A3
  go_wp2_with fail
  refine hlf.mono ?_
  rintro e w4 ⟨rfl, b4⟩
  replace A3 := A3.behind b4
  replace G1 := G1.behind b4
  replace G2 := G2.behind b4
  replace B := below_both B b4
  have hun : u ≤ N := A3.un
  have HU := Lib.hid hun
  clear hmk hlf b4 hun
  have c0 := G1.cell (i := 0) rfl
  have c1 := G1.cell (i := 1) rfl
  have c2 := G1.cell (i := 2) rfl
  have d0 := G2.cell (i := 0) rfl
  have d1 := G2.cell (i := 1) rfl
  have d2 := G2.cell (i := 2) rfl
  go_wp2_with fail
  refine (HMU.out _ _ _ _ _ _ _ _ lw B A3 hs1).mono ?_
  rintro e w6 ⟨hT, ⟨h', ws', A6, k1, k2, k3⟩, kp, io⟩
  replace G1 := kp.ms G1 HNE.out.1.1 HNE.out.1.2
  replace G2 := kp.ms G2 HNE.out.2.1 HNE.out.2.2
  have bg := A6.bg
  have bs := A6.bs
  replace B := B.trans (kp_below kp io (Nat.le_trans hs1 bg) (Nat.le_trans hs1 bs) B.size)
  obtain ⟨R3, C3, b3, n3, c3, rfl, hT3, hr3⟩ := told_argA (Nat.lt_of_lt_of_le hpos B.size) hT
  have HR3 := Lib.hid hr3
  have HHH := Lib.hid (And.intro k1 (And.intro k2 k3))
  obtain ⟨j6, G3⟩ := mbox w6 #[.int .i64 R3, .int .i64 C3, .slice b3 n3 c3] 24 _ rfl
  replace A6 := A6.behind j6
  replace G1 := G1.behind j6
  replace G2 := G2.behind j6
  replace hT3 := hT3.behind j6
  replace B := below_both B j6
  obtain ⟨EE, hEE⟩ : ∃ x, x = if ME = 0 ∧ N < u + ND then 14 else prE R C R2 C2 m1 m2 xs ys cut := ⟨_, rfl⟩
  have HEE := Lib.hid hEE
  rw [← hEE] at hT3 hr3 ⊢
  rw [← hEE] at HR3
  clear HMU A3 lw hT hr3 k1 k2 k3 kp io bg bs j6 c0 c1 c2 d0 d1 d2 hEE
  have c0 := G1.cell (i := 0) rfl
  have c1 := G1.cell (i := 1) rfl
  have c2 := G1.cell (i := 2) rfl
  have d0 := G2.cell (i := 0) rfl
  have d1 := G2.cell (i := 1) rfl
  have d2 := G2.cell (i := 2) rfl
  go_wp2_with fail
  generalize w6.alloc (.cells #[.int .i64 R3, .int .i64 C3, .slice b3 n3 c3] 24) = w7 at *
  generalize w6.heap.size = g3 at *
  refine (HMAY.out _ B).mono ?_
  rintro e w8 ⟨rfl, bz⟩
  replace A6 := A6.behind bz
  replace G1 := G1.behind bz
  replace G2 := G2.behind bz
  replace G3 := G3.behind bz
  replace hT3 := hT3.behind bz
  replace B := below_both B bz
  clear bz c0 c1 c2 d0 d1 d2 HMAY
  have c0 := G1.cell (i := 0) rfl
  have c1 := G1.cell (i := 1) rfl
  have c2 := G1.cell (i := 2) rfl
  have d0 := G2.cell (i := 0) rfl
  have d1 := G2.cell (i := 1) rfl
  have d2 := G2.cell (i := 2) rfl
  by_cases hM : ME = 0
  · obtain ⟨Z0, Z5, ZN⟩ := HZN.out hM
    have hz0 := Lib.hid Z0
    have hzl := Lib.hid (HPL.out hM)
    have q : (ME != 0) = false := by simp [hM]
    have HMZ := Lib.hid hM
    clear hM Z0
    go_wp2_with fail
    refine (ZN _).mono ?_
    rintro e w9 ⟨rfl, rfl⟩
    clear ZN
    by_cases hN : u + ND ≤ N
    · have hd : decide (((N : Int) - (u : Int)) < (ND : Int)) = false := decide_eq_false (by omega)
      have hee : EE = prE R C R2 C2 m1 m2 xs ys cut := by rw [HEE.out, if_neg (fun h => by have := h.2; omega)]
      have hle : h' ≤ u + ND := by have := HHH.out.2.1 HMZ.out hN; omega
      have hsum : IntKind.i64.wrap ((u : Int) + (ND : Int)) = ((u + ND : Nat) : Int) := by rw [IntWalk.i64_in _ (by have := HU.out; omega)]; omega
      generalize u + ND = SN at *
      have HLE : decide (((h' : Nat) : Int) ≤ (SN : Int)) = true := decide_eq_true (by omega)
      have HLI : ¬ ((SN : Int) < (h' : Int)) := by omega
      rw [← hee] at HPR
      clear hN hee
      go_wp2_with fail
      refine (HPR.out _ B).mono ?_
      rintro e w10 ⟨hT, bz⟩
      obtain ⟨R4, C4, b4, n4, c4, rfl, hT4, hr4⟩ := told_argA (Nat.lt_of_lt_of_le hpos (Nat.le_trans B.size bz.size)) hT
      obtain ⟨j6, G4⟩ := mbox w10 #[.int .i64 R4, .int .i64 C4, .slice b4 n4 c4] 24 _ rfl
      have HR4 := Lib.hid hr4
      replace bz := below_both bz j6
      replace hT4 := hT4.behind j6
      replace A6 := A6.behind bz
      replace G1 := G1.behind bz
      replace G2 := G2.behind bz
      replace G3 := G3.behind bz
      replace hT3 := hT3.behind bz
      replace B := below_both B bz
      clear bz j6 c0 c1 c2 d0 d1 d2 HPR hT hr4
      have c0 := G1.cell (i := 0) rfl
      have c1 := G1.cell (i := 1) rfl
      have c2 := G1.cell (i := 2) rfl
      have d0 := G2.cell (i := 0) rfl
      have d1 := G2.cell (i := 1) rfl
      have d2 := G2.cell (i := 2) rfl
      go_wp2_with fail
      generalize w10.alloc (.cells #[.int .i64 R4, .int .i64 C4, .slice b4 n4 c4] 24) = w11 at *
      refine (hz0.out _ B).mono ?_
      rintro e w12 ⟨rfl, bz⟩
      obtain ⟨j6, G5⟩ := mbox w12 #[.int .i64 0, .int .i64 0, .slice none 0 0] 24 _ rfl
      replace bz := below_both bz j6
      replace A6 := A6.behind bz
      replace G4 := G4.behind bz
      replace G3 := G3.behind bz
      replace hT3 := hT3.behind bz
      replace hT4 := hT4.behind bz
      replace B := below_both B bz
      obtain ⟨ZZ, hZZ⟩ : ∃ Z, Z = if EE = 0 then prL R C C2 xs ys cut else [] := ⟨_, rfl⟩
      rw [← hZZ] at hT3 hT4
      have hzz : ZZ.length ≤ 17592186044416 := by
        rw [hZZ]
        split
        · have := hzl.out; omega
        · simp
      have HSM : Hid (sameM R3 C3 R4 C4 ZZ ZZ = true) := Lib.hid (by
        unfold sameM
        by_cases h : EE = 0
        · obtain ⟨rfl, rfl⟩ := HR3.out.1 h
          obtain ⟨rfl, rfl⟩ := HR4.out.1 h
          simp
        · obtain ⟨rfl, rfl⟩ := HR3.out.2 h
          obtain ⟨rfl, rfl⟩ := HR4.out.2 h
          simp)
      have HSA := Lib.hid (shape_same (R := R3) (C := C3) (R' := R4) (C' := C4) hT3 hT4 hzz hzz)
      rw [HSM.out] at HSA
      have e0 := G3.cell (i := 0) rfl
      have e1 := G3.cell (i := 1) rfl
      have e2 := G3.cell (i := 2) rfl
      have f0 := G4.cell (i := 0) rfl
      have f1 := G4.cell (i := 1) rfl
      have f2 := G4.cell (i := 2) rfl
      clear bz j6 c0 c1 c2 d0 d1 d2 G1 G2 G5 hz0 hZZ hT3 hT4 hzz HSM HR3 HR4
      go_wp2_with fail
      generalize w12.alloc (.cells #[.int .i64 0, .int .i64 0, .slice none 0 0] 24) = w13 at *
      refine HSA.out.mono ?_
      rintro e w14 ⟨rfl, bz⟩
      replace A6 := A6.behind bz
      replace B := below_both B bz
      clear bz e0 e1 e2 f0 f1 f2 G3 G4 HSA
      have hmk := ar_mark A6
      go_wp2_with fail
      refine hmk.mono ?_
      rintro e w15 ⟨rfl, rfl⟩
      have hhi := ar_high A6
      go_wp2_with fail
      refine hhi.mono ?_
      rintro e w15 ⟨rfl, rfl⟩
      clear hmk hhi
      go_wp2
      go_ret
      exact ⟨rfl, B⟩
    · have hd : decide (((N : Int) - (u : Int)) < (ND : Int)) = true := decide_eq_true (by omega)
      have hee : EE = 14 := by rw [HEE.out, if_pos ⟨HMZ.out, by omega⟩]
      obtain rfl : h' = u := HHH.out.2.2 (fun h => hN h.2)
      rw [hee] at hT3
      simp only [show ((14 : Int) = 0) = False by decide, if_false] at hT3
      obtain ⟨_, _, hn3⟩ := hT3.slice
      simp only [Value.slice.injEq, List.length_nil] at hn3
      obtain ⟨-, rfl, -⟩ := hn3
      subst hee
      have e2 := G3.cell (i := 2) rfl
      clear hN hT3
      have hmk := ar_mark A6
      go_wp2_with fail
      refine hmk.mono ?_
      rintro e w15 ⟨rfl, rfl⟩
      have hhi := ar_high A6
      go_wp2_with fail
      refine hhi.mono ?_
      rintro e w15 ⟨rfl, rfl⟩
      clear hmk hhi
      go_wp2
      go_ret
      exact ⟨rfl, B⟩
  · have q : (ME != 0) = true := bne_iff_ne.2 hM
    have hee : EE = ME := by rw [HEE.out, if_neg (fun h => hM h.1), HPE.out hM]
    obtain rfl : h' = u := HHH.out.2.2 (fun h => hM h.1)
    subst hee
    clear hM hT3
    have hmk := ar_mark A6
    go_wp2_with fail
    refine hmk.mono ?_
    rintro e w15 ⟨rfl, rfl⟩
    have hhi := ar_high A6
    go_wp2_with fail
    refine hhi.mono ?_
    rintro e w15 ⟨rfl, rfl⟩
    clear hmk hhi
    go_wp2
    go_ret
    exact ⟨rfl, B⟩
end Go.Proofs.Ytjapilpjahhimaa

/- the row -/
namespace Go.Proofs.Ytjapilpjahhimaa.winogradArena
open Go.ChangeShapes Go.WideShapes Go.ChangeAt Go.RowKit Go.Shelf

section
variable (os : Os)
theorem laid_met : laidMet Try.prog Rows.winogradArenaRow.laid ((World.holding Try.prog os ⟨#[], #[], []⟩).forCall (fun _ _ => 0) ⟨#[], #[.agg #[.int .i64 0, .int .i64 0, .slice none 0 0], .agg #[.int .i64 0, .int .i64 0, .slice none 0 0], .int .i64 0, .int .i64 0, .int .u8 0], []⟩).memory :=
  laidMet_of_run' 8 (by kernel_rfl) (by kernel_rfl)
theorem reads {H : Type} (enc : TypeId × Value → H) : ∃ places, DataW.whole enc Try.prog ((World.holding Try.prog os ⟨#[], #[], []⟩).forCall (fun _ _ => 0) ⟨#[], #[.agg #[.int .i64 0, .int .i64 0, .slice none 0 0], .agg #[.int .i64 0, .int .i64 0, .slice none 0 0], .int .i64 0, .int .i64 0, .int .u8 0], []⟩).memory Try.f5.params.toList Rows.winogradArenaSpec.vars false (#[.agg #[.int .i64 0, .int .i64 0, .slice none 0 0], .agg #[.int .i64 0, .int .i64 0, .slice none 0 0], .int .i64 0, .int .i64 0, .int .u8 0] : Array Value).toList 8 = some ([.agg [.lit (.int .i64 0), .lit (.int .i64 0), .nil], .agg [.lit (.int .i64 0), .lit (.int .i64 0), .nil], .lit (.int .i64 0), .lit (.int .i64 0), .lit (.int .u8 0)], [], places) :=
  ⟨[], by kernel_rfl⟩
end

set_option maxRecDepth 100000 in
theorem lifted (os : Os) (started : os.Started) (H : Type) (enc : TypeId × Value → H) (F : Stop.Interp) :
    ReturnsInHanded {} Try.checked os 5 .any ((OpenSpec.ofChange Rows.winogradArenaSpec).preRow enc Try.prog Try.f5 Rows.winogradArenaRow.domain false Rows.winogradArenaRow.laid) (((OpenSpec.ofChange Rows.winogradArenaSpec).at F).post enc Try.prog Try.f5 false true false false) := by
  obtain ⟨places, hx⟩ := reads os enc
  refine returnsInHanded_of_row (C := Try.checked) (s := OpenSpec.ofChange Rows.winogradArenaSpec) own started (by kernel_rfl) Try.func5
    (witness_row_at (enc := enc) (C := Try.checked) false (World.holding Try.prog os ⟨#[], #[], []⟩) #[.agg #[.int .i64 0, .int .i64 0, .slice none 0 0], .agg #[.int .i64 0, .int .i64 0, .slice none 0 0], .int .i64 0, .int .i64 0, .int .u8 0] rfl (by kernel_rfl) (by kernel_rfl) (by kernel_rfl)
      (OpenSpec.preRow_of_cond 8 hx (by kernel_rfl) (fun k hk => by cases hk) (by kernel_rfl) (laid_met os))) ?_
  intro W base args ds gs before hval hW _ hcond hsz _ hsh _
  have hpos := heap_pos hsh
  have hW' := hW
  have hlt : ∀ x ∈ before, x.block < W.heap.size := fun x hx => hW.lt x hx
  obtain ⟨p, q, hA0, hV, rfl, hfz, hnd⟩ := hW
  have hA : DataW.TrodAll enc Try.prog W 0 (fun _ => true) true Try.f5.params.toList args.toList ds p := hA0
  have hA1 := hA
  rw [Try.params5] at hA hval
  obtain ⟨v0, vs0, d0, ds0, p0, q0, hargs, rfl, rfl, h0, r0⟩ := trodAll_cons hA
  obtain ⟨v1, vs1, d1, ds1, p1, q1, rfl, rfl, rfl, h1, r1⟩ := trodAll_cons r0
  obtain ⟨v2, vs2, d2, ds2, p2, q2, rfl, rfl, rfl, h2, r2⟩ := trodAll_cons r1
  obtain ⟨v3, vs3, d3, ds3, p3, q3, rfl, rfl, rfl, h3, r3⟩ := trodAll_cons r2
  obtain ⟨v4, vs4, d4, ds4, p4, q4, rfl, rfl, rfl, h4, r4⟩ := trodAll_cons r3
  obtain ⟨rfl, rfl, rfl⟩ := trodAll_nil r4
  obtain rfl : args = #[v0, v1, v2, v3, v4] := by cases args; simp_all
  obtain ⟨rfl, rfl⟩ := trodVars_none hV
  obtain ⟨R0, C0, b0, m0, c0, x0, rfl, a0, l0, y0, z0, e0⟩ := open_mat hpos (hval 0 24 v0 rfl rfl) h0
  have n0 : x0.length ≤ 17592186043904 := by
    rcases e0 with h | ⟨elems, spare, rfl, h⟩
    · rw [h]; simp
    · have h2 := sized_mat (j := 0) hsz rfl rfl
      omega
  obtain ⟨R1, C1, b1, m1, c1, x1, rfl, a1, l1, y1, z1, e1⟩ := open_mat hpos (hval 1 24 v1 rfl rfl) h1
  have n1 : x1.length ≤ 17592186043904 := by
    rcases e1 with h | ⟨elems, spare, rfl, h⟩
    · rw [h]; simp
    · have h2 := sized_mat (j := 1) hsz rfl rfl
      omega
  obtain ⟨z2, rfl, rfl, y2⟩ := open_i64 (hval 2 3 v2 rfl rfl) h2
  obtain ⟨z3, rfl, rfl, y3⟩ := open_i64 (hval 3 3 v3 rfl rfl) h3
  obtain ⟨a4, rfl, rfl, y4⟩ := open_w8 (hval 4 5 v4 rfl rfl) h4
  refine (winogradArena_calls a0 a1 l0 l1 y3.1 (by omega) (by omega)).mono ?_
  rintro e W' ⟨rfl, hb⟩
  simp only [List.append_nil] at hW' hlt
  exact ⟨_, rfl, _, [], _, [], _, [], hW', trodAll_cons_mk (shut_bool Try.underlying4 _) trodAll_mk0, all_keep hb (by rw [Try.params5]; intro t ht; simp only [List.mem_cons, List.not_mem_nil, or_false] at ht; rcases ht with rfl | rfl | rfl | rfl | rfl <;> first | exact ⟨readable_mat, typed_mat⟩ | exact ⟨readable_int, typed_int⟩ | exact ⟨readable_w8, typed_w8⟩) hA1 (by simpa using hlt), rfl,
    World.keptBut_mono (fun x hx => ⟨hx, .inr (.inl (by simpa using hx))⟩) (hb.frame _), fun h => by cases h⟩

/-- the statement of the row -/
theorem proved : Rows.WinogradArenaSaid :=
  OpenClaim.holds_of_cond 5 Try.f5 rfl rfl rfl rfl rfl rfl rfl ⟨rfl, rfl, rfl, rfl, rfl⟩ rfl rfl rfl rfl rfl (by kernel_rfl) Try.func5 (by kernel_rfl)
    (of_decide_eq_true (by kernel_rfl)) (by unfold Func.isWrapper; first | (rw [if_pos (by decide +kernel)]; kernel_rfl) | (rw [if_neg (by decide +kernel)]; exact ⟨rfl, rfl⟩))
    (fun os started H enc _ F => by rw [OpenClaim.pre_eq_preRow]; exact lifted os started H enc F)
#print axioms proved
end Go.Proofs.Ytjapilpjahhimaa.winogradArena
