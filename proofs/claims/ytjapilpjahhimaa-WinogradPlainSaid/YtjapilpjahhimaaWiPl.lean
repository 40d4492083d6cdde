/- The law WinogradPlain, whole: a product whose cutoff is no less than a side is gemm's. -/
import Derived.Test.YtjapilpjahhimaaWiMulS
namespace Go.Proofs.Ytjapilpjahhimaa
open Go.RowKit Go.Shelf
theorem wi_p64 {R C R' C' : Int} {m m' : Nat} {xs ys : List Nat} : prE R C R' C' m m' xs ys 64 = tellV (mulP R C C' xs ys) (mulF R C m xs R' C' m' ys) ∧ (tellV (mulP R C C' xs ys) (mulF R C m xs R' C' m' ys) = 0 → prL R C C' xs ys 64 = mulP R C C' xs ys ∧ (mulP R C C' xs ys).length ≤ 4096) := by
  by_cases hE : mayE R C R' C' m m' xs ys 64 = 0
  · obtain ⟨e1, e2, rfl, _⟩ := mayE_zero hE
    obtain ⟨p1, p2, p3, p4, p5⟩ := mayM_iff.1 (finM_ok e1).1
    obtain ⟨q1, q2, q3, q4, q5⟩ := mayM_iff.1 (finM_ok e2).1
    have hM : mulF R C m xs C C' m' ys = 0 := by
      unfold mulF firstE
      rw [if_neg (by simp [e1]), if_neg (by simp [e2]), if_neg (by simp)]
    have hF : fastN R.toNat C.toNat C'.toNat (64 : Int).toNat = false := by
      cases h : fastN R.toNat C.toNat C'.toNat (64 : Int).toNat
      · rfl
      · have := fastN_iff.1 h
        omega
    have hP : prL R C C' xs ys 64 = mulP R C C' xs ys := by
      unfold prL prodS
      rw [sevN_slow hF]
      rfl
    have hl : (mulP R C C' xs ys).length = R.toNat * C'.toNat := prodM_length _ _ _ _ _
    have hle : R.toNat * C'.toNat ≤ 64 * 64 := Nat.mul_le_mul (by omega) (by omega)
    refine ⟨?_, fun _ => ⟨hP, by omega⟩⟩
    unfold prE tellV
    rw [if_neg (by simp [hE]), hM, if_neg (by simp), hl, ← hP]
    rfl
  · have hm : mulF R C m xs R' C' m' ys = mayE R C R' C' m m' xs ys 64 := by
      unfold mulF firstE mayE
      rw [if_neg (show ¬ ((64 : Int) < 1) by decide)]
    refine ⟨?_, fun h => ?_⟩
    · unfold prE tellV
      rw [hm, if_pos hE, if_pos hE]
    · unfold tellV at h
      rw [hm, if_pos hE] at h
      exact absurd h hE
set_option maxRecDepth 100000 in
set_option maxHeartbeats 8000000 in
theorem winogradPlain_calls {R C R' C' : Int} {a a' : Option Addr} {m m' cap cap' : Nat} {xs ys : List Nat} {w : World} (hA : Arg w (.slice a m cap) xs) (hA' : Arg w (.slice a' m' cap') ys) (hx : Low 18446744073709551616 xs) (hy : Low 18446744073709551616 ys) :
    Calls Try.prog 4 #[.agg #[.int .i64 R, .int .i64 C, .slice a m cap], .agg #[.int .i64 R', .int .i64 C', .slice a' m' cap']] w fun e W' => e = .returned (.bool true) ∧ Below w.heap.size w W' := by
  have hpos : 0 < w.heap.size := by obtain ⟨S, hS, _⟩ := hA; omega
  obtain ⟨B, G1, G2, hw1⟩ := vboxm w #[.int .i64 R, .int .i64 C, .slice a m cap] #[.int .i64 R', .int .i64 C', .slice a' m' cap'] 24 24 _ rfl
  have hal := l26_alive
  obtain ⟨hE, hZ⟩ := wi_p64 (R := R) (C := C) (R' := R') (C' := C') (m := m) (m' := m') (xs := xs) (ys := ys)
  have hMU := fun (W : World) (h : Below w.heap.size w W) => gemm_mul0 (R := R) (C := C) (R' := R') (C' := C') (hA.behind h) (hA'.behind h) hx hy
  have hPR := fun (W : World) (h : Below w.heap.size w W) => wi_product (R := R) (C := C) (R2 := R') (C2 := C') (cut := 64) (hA.behind h) (hA'.behind h) hx hy
  rw [hE] at hPR
  clear hE
  generalize tellV (mulP R C C' xs ys) (mulF R C m xs R' C' m' ys) = E at *
  obtain ⟨Z, hZZ⟩ : ∃ Z, Z = if E = 0 then mulP R C C' xs ys else [] := ⟨_, rfl⟩
  rw [← hZZ] at hMU
  have HZL : Hid (Z.length ≤ 17592186044416) := Lib.hid (by
    rw [hZZ]
    by_cases h : E = 0
    · rw [if_pos h]
      have := (hZ h).2
      omega
    · rw [if_neg h]
      simp)
  have HPR : Hid (∀ W, Below w.heap.size w W → Calls Try.prog 12 #[.agg #[.int .i64 R, .int .i64 C, .slice a m cap], .agg #[.int .i64 R', .int .i64 C', .slice a' m' cap'], .int .i64 64] W fun e W' => ∃ R2 C2 b n c, e = .returned (.tuple #[.agg #[.int .i64 R2, .int .i64 C2, .slice b n c], .int .i64 E]) ∧ Arg W' (.slice b n c) Z ∧ ((E = 0 → R2 = R ∧ C2 = C') ∧ (E ≠ 0 → R2 = 0 ∧ C2 = 0)) ∧ Below W.heap.size W W') := Lib.hid (fun W h => by
    refine (hPR W h).mono ?_
    rintro e W' ⟨⟨r, c, b, q, cc, he, hx⟩, hb⟩
    rcases hx with ⟨h0, h1, h2, _, hN⟩ | ⟨h0, h1, h2, h3, h4, h5⟩
    · refine ⟨r, c, b, q, cc, he, ?_, ⟨fun _ => ⟨h1, h2⟩, fun h => absurd h0 h⟩, hb⟩
      rw [hZZ, if_pos h0, ← (hZ h0).1]
      exact hN.arg
    · refine ⟨r, c, b, q, cc, he, ?_, ⟨fun h => absurd h h0, fun _ => ⟨h1, h2⟩⟩, hb⟩
      rw [hZZ, if_neg h0, h3, h4, h5]
      exact ⟨0, Nat.lt_of_lt_of_le (Nat.lt_of_lt_of_le hpos h.size) hb.size, .inl ⟨⟨_, _, rfl⟩, rfl⟩⟩)
  have HMU := Lib.hid hMU
  clear hMU hPR hZ hZZ hA hA' hx hy
  have c0 := G1.cell (i := 0) rfl
  have c1 := G1.cell (i := 1) rfl
  have c2 := G1.cell (i := 2) rfl
  have d0 := G2.cell (i := 0) rfl
  have d1 := G2.cell (i := 1) rfl
  have d2 := G2.cell (i := 2) rfl
  go_enter Try.func4, Try.ntmps4
  go_wp2_with fail
  generalize (w.alloc (.cells #[.int .i64 R, .int .i64 C, .slice a m cap] 24)).alloc (.cells #[.int .i64 R', .int .i64 C', .slice a' m' cap'] 24) = W0 at *
  refine (hal _).mono ?_
  rintro e w1 ⟨rfl, b1⟩
  replace B := below_both B b1
  replace G1 := G1.behind b1
  replace G2 := G2.behind b1
  have c0 := G1.cell (i := 0) rfl
  have c1 := G1.cell (i := 1) rfl
  have c2 := G1.cell (i := 2) rfl
  have d0 := G2.cell (i := 0) rfl
  have d1 := G2.cell (i := 1) rfl
  have d2 := G2.cell (i := 2) rfl
  clear b1 hal
  go_wp2_with fail
  refine (HPR.out _ B).mono ?_
  rintro e w2 ⟨R2, C2, b5, n5, c5, rfl, A5, hR5, k5⟩
  have HR5 := Lib.hid hR5
  obtain ⟨j5, K5⟩ := mbox w2 #[.int .i64 R2, .int .i64 C2, .slice b5 n5 c5] 24 _ rfl
  replace A5 := A5.behind j5
  have i5 := below_both k5 j5
  replace B := below_both B i5
  replace G1 := G1.behind i5
  replace G2 := G2.behind i5
  have c0 := G1.cell (i := 0) rfl
  have c1 := G1.cell (i := 1) rfl
  have c2 := G1.cell (i := 2) rfl
  have d0 := G2.cell (i := 0) rfl
  have d1 := G2.cell (i := 1) rfl
  have d2 := G2.cell (i := 2) rfl
  clear hR5 k5 j5 i5
  go_wp2_with fail
  generalize w2.alloc (.cells #[.int .i64 R2, .int .i64 C2, .slice b5 n5 c5] 24) = w3 at *
  refine (HMU.out _ B).mono ?_
  rintro e w4 ⟨R3, C3, b7, n7, c7, rfl, hN7, hR7, k7⟩
  have A7 := hN7.arg
  have HR7 := Lib.hid hR7
  obtain ⟨j7, K7⟩ := mbox w4 #[.int .i64 R3, .int .i64 C3, .slice b7 n7 c7] 24 _ rfl
  replace A7 := A7.behind j7
  have i7 := below_both k7 j7
  replace B := below_both B i7
  replace A5 := A5.behind i7
  replace K5 := K5.behind i7
  have e0 := K5.cell (i := 0) rfl
  have e1 := K5.cell (i := 1) rfl
  have e2 := K5.cell (i := 2) rfl
  have f0 := K7.cell (i := 0) rfl
  have f1 := K7.cell (i := 1) rfl
  have f2 := K7.cell (i := 2) rfl
  have HSM : Hid (sameM R2 C2 R3 C3 Z Z = true) := Lib.hid (by
    unfold sameM
    by_cases h : E = 0
    · obtain ⟨rfl, rfl⟩ := HR5.out.1 h
      obtain ⟨rfl, rfl⟩ := HR7.out.1 h
      simp
    · obtain ⟨rfl, rfl⟩ := HR5.out.2 h
      obtain ⟨rfl, rfl⟩ := HR7.out.2 h
      simp)
  have HSA := Lib.hid (shape_same (R := R2) (C := C2) (R' := R3) (C' := C3) A5 A7 HZL.out HZL.out)
  rw [HSM.out] at HSA
  have HB := Lib.hid B
  clear hN7 hR7 k7 j7 i7 G1 G2 c0 c1 c2 d0 d1 d2 HMU HPR B A5 A7 HR5 HR7 hw1 hpos
  go_wp2_with fail
  refine HSA.out.mono ?_
  rintro e w6 ⟨rfl, b6⟩
  go_wp2
  go_ret
  exact ⟨rfl, below_both HB.out b6⟩
end Go.Proofs.Ytjapilpjahhimaa
