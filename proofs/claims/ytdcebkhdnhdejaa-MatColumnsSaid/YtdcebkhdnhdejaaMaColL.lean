/- mat.Ger, whole; vernierlaw20.MatColumns, walked. -/
import Derived.Test.YtdcebkhdnhdejaaMaCol
import Derived.Deep.RegionHeld3
import Derived.Deep.CutRange
import Derived.Deep.DeepCutAuto
namespace Go.Proofs.Ytdcebkhdnhdejaa
open Go.RowKit Go.Shelf
theorem gerF_ok {f ex ey : Int} {q : Bool} (h : gerF f ex ey q = 0) : f = 0 ∧ ex = 0 ∧ ey = 0 ∧ q = true := by
  unfold gerF at h
  by_cases h1 : f = 0
  · rw [if_neg (by simp [h1])] at h
    by_cases h2 : ex = 0
    · rw [if_neg (by simp [h2])] at h
      by_cases h3 : ey = 0
      · rw [if_neg (by simp [h3])] at h
        cases q
        · exact absurd h (by decide)
        · exact ⟨h1, h2, h3, rfl⟩
      · rw [if_pos h3] at h; exact absurd h h3
    · rw [if_pos h2] at h; exact absurd h h2
  · rw [if_pos h1] at h; exact absurd h h1
def gerA (R C : Int) (xs vs us : List Nat) : List Nat := gerV R.toNat C.toNat xs vs us
theorem mat_ger {R C : Int} {a vb ub : Option Addr} {m n l cap capv capu : Nat} {xs vs us : List Nat} {w : World} (hA : Arg w (.slice a m cap) xs) (hV : Arg w (.slice vb n capv) vs) (hU : Arg w (.slice ub l capu) us) (hx : Low 18446744073709551616 xs) (hv : Low 18446744073709551616 vs) (hu : Low 18446744073709551616 us) (hvn : vs.length ≤ 17592186044416) (hun : us.length ≤ 17592186044416) :
    Calls Try.prog 28 #[.agg #[.int .i64 R, .int .i64 C, .slice a m cap], .slice vb n capv, .slice ub l capu] w fun e W' => ∃ R2 C2 b n2 c2, e = .returned (.tuple #[.agg #[.int .i64 R2, .int .i64 C2, .slice b n2 c2], .int .i64 (tellV (gerA R C xs vs us) (gerF (finM R C m xs) (chkV vs) (chkV us) (gers R C n l)))]) ∧ New w.heap.size W' (.slice b n2 c2) (if tellV (gerA R C xs vs us) (gerF (finM R C m xs) (chkV vs) (chkV us) (gers R C n l)) = 0 then gerA R C xs vs us else []) ∧ (tellV (gerA R C xs vs us) (gerF (finM R C m xs) (chkV vs) (chkV us) (gers R C n l)) = 0 → R2 = R ∧ C2 = C) ∧ Below w.heap.size w W' := by
  have hpos : 0 < w.heap.size := by obtain ⟨S, hS, _⟩ := hA; omega
  by_cases hF : gerF (finM R C m xs) (chkV vs) (chkV us) (gers R C n l) = 0
  · obtain ⟨h1, h2, h3, h4⟩ := gerF_ok hF
    obtain ⟨q1, q2, q3, q4, q5⟩ := mayM_iff.1 (finM_ok h1).1
    obtain ⟨r, rfl⟩ : ∃ r : Nat, R = r := ⟨R.toNat, by omega⟩
    obtain ⟨c, rfl⟩ : ∃ r : Nat, C = r := ⟨C.toNat, by omega⟩
    unfold gers at h4
    simp only [Bool.and_eq_true, beq_iff_eq] at h4
    obtain rfl : n = r := by omega
    obtain rfl : l = c := by omega
    rw [hF]
    unfold gerA
    rw [Int.toNat_natCast, Int.toNat_natCast]
    exact mat_ger_yes hA hV hU hx hv hu h1 h2 h3
  · refine (mat_ger_no hA hV hU hx hv hu hvn hun hF).mono ?_
    rintro e W' ⟨rfl, hb⟩
    exact ⟨0, 0, none, 0, 0, by rw [tellV_no hF], by rw [tellV_no hF, if_neg hF]; exact new_nil _ hpos hb, by rw [tellV_no hF]; intro h; exact absurd h hF, hb⟩
theorem firstE_0 (a b c : Int) : firstE (firstE a b 0) c 0 = firstE a b c := by
  unfold firstE
  by_cases h1 : a = 0
  · by_cases h2 : b = 0
    · by_cases h3 : c = 0
      · simp [h1, h2, h3]
      · simp [h1, h2, h3]
    · simp [h1, h2]
  · simp [h1]
theorem gerF_first (f ex ey : Int) (q : Bool) : firstE (firstE (firstE f ex 0) ey 0) (if q then 0 else 11) 0 = gerF f ex ey q := by
  unfold firstE gerF
  by_cases h1 : f = 0
  · by_cases h2 : ex = 0
    · by_cases h3 : ey = 0
      · cases q <;> simp [h1, h2, h3]
      · simp [h1, h2, h3]
    · simp [h1, h2]
  · simp [h1]
theorem firstE_l {a b c : Int} (h : firstE a b c = 0) : a = 0 ∧ b = 0 ∧ c = 0 := by
  rcases firstE_ways a b c with ⟨h1, h2⟩ | ⟨h1, h2, h3⟩ | ⟨h1, h2, h3⟩
  · exact absurd (h2.symm.trans h) h1
  · exact absurd (h3.symm.trans h) h2
  · exact ⟨h1, h2, h3.symm.trans h⟩
theorem tellV_like {ws ws' : List Nat} {f : Int} (h : f = 0 → ws = ws') : tellV ws f = tellV ws' f ∧ (if tellV ws f = 0 then ws else []) = (if tellV ws' f = 0 then ws' else []) := by
  by_cases h0 : f = 0
  · rw [h h0]; exact ⟨rfl, rfl⟩
  · rw [tellV_no h0, tellV_no h0, if_neg h0, if_neg h0]; exact ⟨rfl, rfl⟩
theorem rowD_lt (C : Nat) (xs vs : List Nat) (i : Nat) : rowD C xs vs i ≤ 18446744073709551615 := dotV_lt _ _ _
set_option maxRecDepth 100000 in
set_option maxHeartbeats 16000000 in
theorem matColumns_calls {R C : Int} {a vb ub : Option Addr} {m n l cap capv capu : Nat} {xs vs us : List Nat} {w : World} (hA : Arg w (.slice a m cap) xs) (hV : Arg w (.slice vb n capv) vs) (hU : Arg w (.slice ub l capu) us) (hx : Low 18446744073709551616 xs) (hv : Low 18446744073709551616 vs) (hu : Low 18446744073709551616 us) (hxn : xs.length ≤ 17592186044415) (hvn : vs.length ≤ 17592186044415) (hun : us.length ≤ 17592186044415) :
    Calls Try.prog 5 #[.agg #[.int .i64 R, .int .i64 C, .slice a m cap], .slice vb n capv, .slice ub l capu] w fun e W' => e = .returned (.bool true) ∧ Below w.heap.size w W' := by
  have hpos : 0 < w.heap.size := by obtain ⟨S, hS, _⟩ := hA; omega
  have hmx : m = xs.length := by
    obtain ⟨a', c', e⟩ := hA.slice
    simp only [Value.slice.injEq] at e
    omega
  have hnv : n = vs.length := by
    obtain ⟨a', c', e⟩ := hV.slice
    simp only [Value.slice.injEq] at e
    omega
  have hlu : l = us.length := by
    obtain ⟨a', c', e⟩ := hU.slice
    simp only [Value.slice.injEq] at e
    omega
  obtain ⟨B, G⟩ := mbox w #[.int .i64 R, .int .i64 C, .slice a m cap] 24 _ rfl
  have hal := l20_alive
  have HF := Lib.hid (fun (W : World) (h : Below w.heap.size w W) => shape_finite (R := R) (C := C) (hA.behind h) hx)
  have H1 := Lib.hid (fun (W : World) (h : Below w.heap.size w W) => vec_check (hV.behind h) hv (by omega))
  have H2 := Lib.hid (fun (W : World) (h : Below w.heap.size w W) => vec_check (hU.behind h) hu (by omega))
  have hGV := fun (W : World) (h : Below w.heap.size w W) => mat_gemv (R := R) (C := C) (hA.behind h) (hV.behind h) hx hv (by omega)
  have hGR := fun (W : World) (h : Below w.heap.size w W) => mat_ger (R := R) (C := C) (hA.behind h) (hV.behind h) (hU.behind h) hx hv hu (by omega) (by omega)
  obtain ⟨E, hE⟩ : ∃ E, E = gemF (finM R C m xs) vs C := ⟨_, rfl⟩
  obtain ⟨F, hF⟩ : ∃ F, F = gerF (finM R C m xs) (chkV vs) (chkV us) (gers R C n l) := ⟨_, rfl⟩
  rw [← hE] at hGV
  rw [← hF] at hGR
  obtain ⟨GE, hGE⟩ : ∃ GE, GE = tellV (gemV R.toNat C.toNat xs vs) E := ⟨_, rfl⟩
  obtain ⟨GZ, hGZ⟩ : ∃ GZ, GZ = if GE = 0 then gemV R.toNat C.toNat xs vs else [] := ⟨_, rfl⟩
  rw [← hGE, ← hGZ] at hGV
  have HGV := Lib.hid hGV
  have HGR := Lib.hid hGR
  clear hGV hGR
  have HE : Hid (∀ q : Int, q = (if (n : Int) ≠ C then 11 else 0) → firstE (firstE (finM R C m xs) (chkV vs) 0) q 0 = E) := Lib.hid (fun q h => by rw [firstE_0, hE, h, hnv]; rfl)
  have HFF : Hid (∀ q : Int, q = (if gers R C n l then 0 else 11) → firstE (firstE (firstE (finM R C m xs) (chkV vs) 0) (chkV us) 0) q 0 = F) := Lib.hid (fun q h => by rw [hF, h]; exact gerF_first _ _ _ _)
  -- what E says
  have HA0 : Hid (E ≠ 0 → GE = E ∧ GZ = []) := Lib.hid (fun h => by
    have : GE = E := by rw [hGE, tellV_no h]
    exact ⟨this, by rw [hGZ, if_neg (by rw [this]; exact h)]⟩)
  have HB0 : Hid (E = 0 → ∃ r c : Nat, R = r ∧ C = c ∧ 1 ≤ r ∧ r ≤ 64 ∧ 1 ≤ c ∧ c ≤ 64 ∧ m = r * c ∧ vs.length = c ∧ chkV vs = 0 ∧ finB xs xs.length = true ∧ GE = tellV (gemV r c xs vs) 0 ∧ GZ = if GE = 0 then gemV r c xs vs else []) := Lib.hid (fun h => by
    have h0 := h
    rw [hE] at h
    unfold gemF at h
    obtain ⟨k1, k2, k3⟩ := firstE_l h
    have hm := (finM_ok k1).1
    obtain ⟨q1, q2, q3, q4, q5⟩ := mayM_iff.1 hm
    obtain ⟨r, rfl⟩ : ∃ r : Nat, R = r := ⟨R.toNat, by omega⟩
    obtain ⟨c, rfl⟩ : ∃ r : Nat, C = r := ⟨C.toNat, by omega⟩
    have hmn : m = r * c := by rw [← Int.natCast_mul] at q5; omega
    have hfx : finB xs xs.length = true := by
      rw [hmx] at k1 hm
      rw [finM_may hm] at k1
      cases hh : finB xs xs.length
      · rw [hh] at k1; exact absurd k1 (by decide)
      · rfl
    have hvc : vs.length = c := by
      by_cases hq : (vs.length : Int) = c
      · omega
      · rw [if_pos hq] at k3; exact absurd k3 (by decide)
    rw [Int.toNat_natCast, Int.toNat_natCast] at hGE hGZ
    exact ⟨r, c, rfl, rfl, by omega, by omega, by omega, by omega, hmn, hvc, k2, hfx, by rw [hGE, h0], hGZ⟩)
  have HC0 : Hid (F = 0 → ∃ r c : Nat, R = r ∧ C = c ∧ 1 ≤ r ∧ r ≤ 64 ∧ 1 ≤ c ∧ c ≤ 64 ∧ m = r * c ∧ n = r ∧ l = c ∧ mayM R C m = true) := Lib.hid (fun h => by
    rw [hF] at h
    obtain ⟨k1, k2, k3, k4⟩ := gerF_ok h
    have hm := (finM_ok k1).1
    obtain ⟨q1, q2, q3, q4, q5⟩ := mayM_iff.1 hm
    obtain ⟨r, rfl⟩ : ∃ r : Nat, R = r := ⟨R.toNat, by omega⟩
    obtain ⟨c, rfl⟩ : ∃ r : Nat, C = r := ⟨C.toNat, by omega⟩
    have hmn : m = r * c := by rw [← Int.natCast_mul] at q5; omega
    unfold gers at k4
    simp only [Bool.and_eq_true, beq_iff_eq] at k4
    exact ⟨r, c, rfl, rfl, by omega, by omega, by omega, by omega, hmn, by omega, by omega, hm⟩)
  have HL := Lib.hid (And.intro hmx (And.intro hnv hlu))
  have HGG : Hid (∀ q : Bool, q = gers R C n l → (if gers R C n l then (0 : Int) else 11) = if q then 0 else 11) := Lib.hid (fun q h => by rw [h])
  have HGS : Hid (gers R C n l = ((n : Int) == R && (l : Int) == C)) := Lib.hid rfl
  generalize finM R C m xs = f at *
  have HCV : Hid (chkV vs = chkV vs) := Lib.hid rfl
  obtain ⟨cx, hcx⟩ : ∃ q, q = chkV vs := ⟨_, rfl⟩
  obtain ⟨cy, hcy⟩ : ∃ q, q = chkV us := ⟨_, rfl⟩
  rw [← hcx] at H1 HE HFF HB0
  rw [← hcy] at H2 HFF
  have HCX := Lib.hid hcx
  have HXX := Lib.hid (And.intro hA (And.intro hV (And.intro hU (And.intro hx (And.intro hv (And.intro hu (And.intro hxn (And.intro hvn hun))))))))
  clear hE hF hGE hGZ hmx hnv hlu hcx hcy HCV hA hV hU hx hv hu hxn hvn hun HGG
  have c0 := G.cell (i := 0) rfl
  have c1 := G.cell (i := 1) rfl
  have c2 := G.cell (i := 2) rfl
  go_enter Try.func5, Try.ntmps5
  go_wp2_with fail
  generalize w.alloc (.cells #[.int .i64 R, .int .i64 C, .slice a m cap] 24) = W0 at *
  refine (hal _).mono ?_
  rintro e w1 ⟨rfl, b1⟩
  replace B := below_both B b1
  replace G := G.behind b1
  clear hal b1
  have c0 := G.cell (i := 0) rfl
  have c1 := G.cell (i := 1) rfl
  have c2 := G.cell (i := 2) rfl
  go_wp2_with fail
  refine (HF.out _ B).mono ?_
  rintro e w2 ⟨rfl, b2⟩
  replace B := below_both B b2
  replace G := G.behind b2
  clear b2 HF
  have c0 := G.cell (i := 0) rfl
  have c1 := G.cell (i := 1) rfl
  have c2 := G.cell (i := 2) rfl
  go_wp2_with fail
  refine (H1.out _ B).mono ?_
  rintro e w3 ⟨rfl, b3⟩
  replace B := below_both B b3
  replace G := G.behind b3
  clear b3 H1
  go_wp2_with fail
  refine l20_first2_at.mono ?_
  rintro e w4 ⟨rfl, b4⟩
  replace B := below_both B b4
  replace G := G.behind b4
  clear b4
  generalize hz1 : firstE f cx 0 = z1 at *
  go_wp2_with fail
  refine (H2.out _ B).mono ?_
  rintro e w5 ⟨rfl, b5⟩
  replace B := below_both B b5
  replace G := G.behind b5
  clear b5 H2
  go_wp2_with fail
  refine l20_first2_at.mono ?_
  rintro e w6 ⟨rfl, b6⟩
  replace B := below_both B b6
  replace G := G.behind b6
  clear b6
  generalize hz2 : firstE z1 cy 0 = z2 at *
  clear hz1 hz2
  have c0 := G.cell (i := 0) rfl
  have c1 := G.cell (i := 1) rfl
  have c2 := G.cell (i := 2) rfl
  go_upto_region 5 with (fail)
  go_cut [7] from 36 to 44 (fun u wx => u = .int .i64 E ∧ Below w6.heap.size w6 wx)
  case first =>
    by_cases h : (n : Int) = C
    · have q : ((n : Int) != C) = false := by simp [h]
      have HH := Lib.hid (HE.out 0 (by rw [if_neg (by simp [h])]))
      clear h
      go_wp2_with fail
      refine l20_when.mono ?_
      rintro e w7 ⟨rfl, rfl⟩
      go_wp2_with fail
      refine l20_first2_at.mono ?_
      rintro e w8 ⟨rfl, b8⟩
      go_wp2_with fail
      go_meet
      exact ⟨by rw [← HH.out], b8⟩
    · have q : ((n : Int) != C) = true := bne_iff_ne.2 h
      have HH := Lib.hid (HE.out 11 (by rw [if_pos h]))
      clear h
      go_wp2_with fail
      refine l20_when.mono ?_
      rintro e w7 ⟨rfl, rfl⟩
      go_wp2_with fail
      refine l20_first2_at.mono ?_
      rintro e w8 ⟨rfl, b8⟩
      go_wp2_with fail
      go_meet
      exact ⟨by rw [← HH.out], b8⟩
  obtain ⟨rfl, b7⟩ := hcut
  obtain ⟨w7, rfl⟩ : ∃ wo, wo = wc := ⟨_, rfl⟩
  replace B := below_both B b7
  replace G := G.behind b7
  clear b7 HE c0 c1 c2
  have c0 := G.cell (i := 0) rfl
  have c1 := G.cell (i := 1) rfl
  have c2 := G.cell (i := 2) rfl
  go_upto_region 6 with (fail)
  go_cut [8] from 45 to 60 (fun u wx => u = .int .i64 F ∧ Below w7.heap.size w7 wx)
  case first =>
    by_cases h : (n : Int) = R
    · by_cases h2 : (l : Int) = C
      · have q : ((n : Int) != R) = false := by simp [h]
        have q2 : ((l : Int) != C) = false := by simp [h2]
        have HH := Lib.hid (HFF.out 0 (by rw [HGS.out]; simp [h, h2]))
        clear h h2
        go_wp2_with fail
        refine l20_when.mono ?_
        rintro e w8 ⟨rfl, rfl⟩
        go_wp2_with fail
        refine l20_first2_at.mono ?_
        rintro e w9 ⟨rfl, b8⟩
        go_wp2_with fail
        go_meet
        exact ⟨by rw [← HH.out], b8⟩
      · have q : ((n : Int) != R) = false := by simp [h]
        have q2 : ((l : Int) != C) = true := bne_iff_ne.2 h2
        have HH := Lib.hid (HFF.out 11 (by rw [HGS.out]; simp [h2]))
        clear h h2
        go_wp2_with fail
        refine l20_when.mono ?_
        rintro e w8 ⟨rfl, rfl⟩
        go_wp2_with fail
        refine l20_first2_at.mono ?_
        rintro e w9 ⟨rfl, b8⟩
        go_wp2_with fail
        go_meet
        exact ⟨by rw [← HH.out], b8⟩
    · have q : ((n : Int) != R) = true := bne_iff_ne.2 h
      have HH := Lib.hid (HFF.out 11 (by rw [HGS.out]; simp [h]))
      clear h
      go_wp2_with fail
      refine l20_when.mono ?_
      rintro e w8 ⟨rfl, rfl⟩
      go_wp2_with fail
      refine l20_first2_at.mono ?_
      rintro e w9 ⟨rfl, b8⟩
      go_wp2_with fail
      go_meet
      exact ⟨by rw [← HH.out], b8⟩
  obtain ⟨rfl, b8⟩ := hcut
  obtain ⟨w8, rfl⟩ : ∃ wo, wo = wc := ⟨_, rfl⟩
  replace B := below_both B b8
  replace G := G.behind b8
  clear b8 HFF HGS c0 c1 c2
  have c0 := G.cell (i := 0) rfl
  have c1 := G.cell (i := 1) rfl
  have c2 := G.cell (i := 2) rfl
  go_wp2_with fail
  refine (HGV.out _ B).mono ?_
  rintro e w9 ⟨b5, n5, c5, rfl, hN5, k9⟩
  replace B := below_both B k9
  replace G := G.behind k9
  have A5 := hN5.arg
  clear k9 HGV hN5
  have c0 := G.cell (i := 0) rfl
  have c1 := G.cell (i := 1) rfl
  have c2 := G.cell (i := 2) rfl
  go_wp2_with fail
  refine (HGR.out _ B).mono ?_
  rintro e w10 ⟨R6, C6, b6, n6, c6, rfl, hN6, hR6, k10⟩
  obtain ⟨j6, K6⟩ := mbox w10 #[.int .i64 R6, .int .i64 C6, .slice b6 n6 c6] 24 _ rfl
  have B6 := below_both k10 j6
  replace B := below_both B B6
  replace G := G.behind B6
  replace A5 := A5.behind B6
  have A6 := Lib.hid (hN6.arg.behind j6)
  have HR6 := Lib.hid hR6
  clear hN6 hR6 j6 k10 B6 HGR
  have c0 := G.cell (i := 0) rfl
  have c1 := G.cell (i := 1) rfl
  have c2 := G.cell (i := 2) rfl
  go_upto_if 75 with (fail)
  generalize w10.alloc (.cells #[.int .i64 R6, .int .i64 C6, .slice b6 n6 c6] 24) = w11 at *
  go_cut [] from 13 to 150 (fun wx => Below w11.heap.size w11 wx)
  case first =>
   as_aux_lemma =>
    by_cases hE : E = 0
    · obtain ⟨r, c, hr, hc, r1, r2, c1', c2', hmn, hvc, hcv, hfx, hGE, hGZ⟩ := HB0.out hE
      subst hr hc hE
      obtain ⟨hA, hV, hU, hx, hv, hu, hxn, hvn, hun⟩ := HXX.out
      obtain ⟨hmx, hnv, hlu⟩ := HL.out
      have hix : ∀ i, i < r → i * c + c ≤ r * c := fun i hi => by
        have := Nat.mul_le_mul_right c (show i + 1 ≤ r from hi)
        rwa [Nat.add_mul, Nat.one_mul] at this
      have hF0 : firstE 0 (chkV vs) (if vs.length ≠ c then 11 else 0) = 0 := by
        rw [← HCX.out, hcv, if_neg (by simp [hvc])]; rfl
      have HDE : Hid (∀ i, i < r → dotE (partW xs (i * c) c) vs = (if cls (rowD c xs vs i) ≤ 1 then 0 else 13) ∧ (cls (rowD c xs vs i) ≤ 1 → dotR (partW xs (i * c) c) vs = rowD c xs vs i)) := Lib.hid (fun i hi => by
        obtain ⟨k1, k2⟩ := dot_row (vs := vs) (C := c) (i := i) hfx (by rw [← hmx, hmn]; exact hix i hi) (by omega)
        rw [hF0, if_neg (by simp)] at k1
        exact ⟨k1, k2 hF0⟩)
      have HDT := Lib.hid (fun (i : Nat) (W : World) (h : Below w.heap.size w W) (b : Option Addr) (cc : Nat) (hr : Arg W (.slice b c cc) (partW xs (i * c) c)) => vec_dot hr (hV.behind h) (by
        intro y hy
        unfold partW at hy
        obtain ⟨k, _, rfl⟩ := List.mem_map.1 hy
        exact lim_lt hx (by decide) _) hv (by rw [partW_length]; omega) (by omega))
      obtain ⟨S, hS, hR⟩ := hA
      obtain ⟨sa, sc, es, hcap, hof⟩ := hR.slice
      simp only [Value.slice.injEq] at es
      obtain ⟨rfl, -, rfl⟩ := es
      obtain ⟨off, rfl⟩ := hof (by rw [← hmx, hmn]; exact Nat.mul_pos (by omega) (by omega))
      rw [← hmx] at hcap
      have HA : Hid (Arg w (.slice (some ⟨S, off, none⟩) m cap) xs) := Lib.hid ⟨S, hS, hR⟩
      have HPT := Lib.hid (fun (i : Nat) (W : World) (h : Below w.heap.size w W) (hi : i < r) => (HA.out.behind h).part (o := i * c) (k := c) (cap' := cap - i * c) (by rw [← hmx, hmn]; exact hix i hi) (by have := hix i hi; omega))
      have HPQ : Hid (∀ i, i < r → ∃ P Q : Nat, P = i * c ∧ IntKind.i64.wrap ((i : Int) * (c : Int)) = (P : Int) ∧ IntKind.i64.wrap (((i : Int) + 1) * (c : Int)) = (Q : Int) ∧ (P : Int) ≤ (Q : Int) ∧ (Q : Int) ≤ (cap : Int) ∧ Q - P = c ∧ P ≤ cap ∧ ¬ cap = P ∧ (i : Int) ≤ 64) := Lib.hid (fun i hi => by
        have h1 := hix i hi
        have hrc := Nat.mul_le_mul r2 c2'
        obtain ⟨P, hP⟩ : ∃ P, P = i * c := ⟨_, rfl⟩
        obtain ⟨Q, hQ⟩ : ∃ Q, Q = i * c + c := ⟨_, rfl⟩
        refine ⟨P, Q, hP, ?_, ?_, by omega, by omega, by omega, by omega, by omega, by omega⟩
        · rw [← Int.natCast_mul, ← hP]; exact IntWalk.i64_in _ (by omega)
        · rw [show ((i : Int) + 1) * (c : Int) = (Q : Int) by rw [Int.add_mul, Int.one_mul, ← Int.natCast_mul, hQ, Int.natCast_add]]
          exact IntWalk.i64_in _ (by omega))
      have HG := Lib.hid G
      have HBB := Lib.hid B
      rcases tellV_ways (gemV r c xs vs) 0 with ⟨h, _⟩ | ⟨_, h1, h2⟩ | ⟨_, h1, h2⟩
      · exact absurd rfl h
      · rw [h2] at hGE
        subst hGE
        rw [if_pos rfl] at hGZ
        subst hGZ
        have HFN : Hid (∀ i, i < r → cls (rowD c xs vs i) ≤ 1 ∧ lim (gemV r c xs vs) i = rowD c xs vs i) := Lib.hid (fun i hi => by
          have hl : lim (gemV r c xs vs) i = rowD c xs vs i := rowV_lim _ hi
          have := finB_iff.1 h1 i (by unfold gemV; rw [rowV_length]; exact hi)
          exact ⟨by rwa [hl] at this, hl⟩)
        have hgl : (gemV r c xs vs).length = r := rowV_length _ _
        obtain ⟨T, ta, tc, hT, e5, _, HX5⟩ := A5.opened
        rw [hgl] at e5 HX5
        simp only [Value.slice.injEq] at e5
        obtain ⟨rfl, rfl, rfl⟩ := e5
        obtain ⟨o, rfl, -⟩ := HX5.out w11 (Below.refl _ _) 0 (by omega)
        clear h1 h2 hgl A5 hV hU hx hv hu hxn hvn hun hmx hnv hlu hix hF0 hcv hfx hR hof hcap hmn hvc G B c0 c1 c2
        have HR1 := Lib.hid r2
        have hr64 : (n5 : Int) ≤ 64 := by omega
        have c0 := HG.out.cell (i := 0) rfl
        go_wp2_with fail
        go_loopw [13, 14] (fun ov i wr => ∃ k : Nat, k ≤ n5 ∧ i = .int .i64 k ∧ ov = .bool false ∧ Below w11.heap.size w11 wr) (fun _ i _ => n5 - (intOf i).toNat)
        case atStart => exact ⟨0, Nat.zero_le _, rfl, rfl, Below.refl _ _⟩
        case round =>
          obtain ⟨k, hk, rfl, rfl, hB⟩ := hrel
          have hg := HG.out.behind hB
          have c0 : wr.cell? ⟨w.heap.size, 0, none⟩ = some (.int .i64 (n5 : Int)) := hg.cell (i := 0) rfl
          by_cases hlt : k < n5
          · have c1 : wr.cell? ⟨w.heap.size, 1, none⟩ = some (.int .i64 (c : Int)) := hg.cell (i := 1) rfl
            have c2 : wr.cell? ⟨w.heap.size, 2, none⟩ = some (.slice (some ⟨S, off, none⟩) m cap) := hg.cell (i := 2) rfl
            have hdt := HDT.out k wr (below_both HBB.out hB) _ _ (HPT.out k wr (below_both HBB.out hB) hlt)
            obtain ⟨e1, e2⟩ := HDE.out k hlt
            obtain ⟨hc1, hl1⟩ := HFN.out k hlt
            rw [e1, if_pos hc1, e2 hc1] at hdt
            have HC5 : Hid (∀ W, Below w11.heap.size w11 W → W.cell? ⟨T, o + k, none⟩ = some (.int .u64 (rowD c xs vs k : Int))) := Lib.hid (fun W h => by
              obtain ⟨o2, e2, k5⟩ := HX5.out W h k hlt
              simp only [Option.some.injEq, Addr.mk.injEq, true_and, and_true] at e2
              subst e2
              rwa [hl1] at k5)
            obtain ⟨P, Q, hP, p1, p2, p3, p4, p5, p6, p7, p8⟩ := HPQ.out k hlt
            rw [← hP] at hdt
            clear hP e1 e2 hc1 hl1 hg
            generalize rowD c xs vs k = y at *
            have d1 : decide ((n5 : Int) ≤ (k : Int)) = false := decide_eq_false (by omega)
            have d2 : decide (n5 ≤ k) = false := decide_eq_false (by omega)
            go_wp2_with fail
            refine hdt.mono ?_
            rintro e w12 ⟨rfl, b12⟩
            have hB2 := below_both hB b12
            have kc := HC5.out _ hB2
            clear hdt b12
            go_wp2
            exact ⟨⟨k + 1, by omega, by simp, rfl, hB2⟩, by simp [intOf]; omega⟩
          · obtain rfl : k = n5 := by omega
            go_wp2_with fail
            go_meet
            exact hB
      · rw [h2] at hGE
        subst hGE
        rw [if_neg (by decide)] at hGZ
        subst hGZ
        obtain rfl : n5 = 0 := by
          obtain ⟨a8, c8, e8⟩ := A5.slice
          simp only [Value.slice.injEq, List.length_nil] at e8
          exact e8.2.1
        have HFB : Hid (finB (gemV r c xs vs) r = false) := Lib.hid (by
          have hgl : (gemV r c xs vs).length = r := rowV_length _ _
          rwa [hgl] at h1)
        have HFS : Hid (∀ k, k < r → finB (gemV r c xs vs) (k + 1) = (finB (gemV r c xs vs) k && decide (cls (rowD c xs vs k) ≤ 1))) := Lib.hid (fun k hk => by
          show (finB (gemV r c xs vs) k && decide (cls (lim (gemV r c xs vs) k) ≤ 1)) = _
          rw [show lim (gemV r c xs vs) k = rowD c xs vs k from rowV_lim _ hk])
        clear h1 h2 A5 hV hU hx hv hu hxn hvn hun hmx hnv hlu hix hF0 hcv hfx hR hof hcap hmn hvc G B c0 c1 c2
        have hr64 : (r : Int) ≤ 64 := by omega
        have c0 := HG.out.cell (i := 0) rfl
        go_wp2_with fail
        go_loopw [13, 14] (fun ov i wr => ∃ k : Nat, ∃ ob : Bool, k ≤ r ∧ i = .int .i64 k ∧ ov = .bool ob ∧ Hid (ob = !finB (gemV r c xs vs) k) ∧ Below w11.heap.size w11 wr) (fun _ i _ => r - (intOf i).toNat)
        case atStart => exact ⟨0, false, Nat.zero_le _, rfl, rfl, Lib.hid rfl, Below.refl _ _⟩
        case round =>
          obtain ⟨k, ob, hk, rfl, rfl, HO, hB⟩ := hrel
          have hg := HG.out.behind hB
          have c0 : wr.cell? ⟨w.heap.size, 0, none⟩ = some (.int .i64 (r : Int)) := hg.cell (i := 0) rfl
          by_cases hlt : k < r
          · have c1 : wr.cell? ⟨w.heap.size, 1, none⟩ = some (.int .i64 (c : Int)) := hg.cell (i := 1) rfl
            have c2 : wr.cell? ⟨w.heap.size, 2, none⟩ = some (.slice (some ⟨S, off, none⟩) m cap) := hg.cell (i := 2) rfl
            have hdt := HDT.out k wr (below_both HBB.out hB) _ _ (HPT.out k wr (below_both HBB.out hB) hlt)
            obtain ⟨e1, e2⟩ := HDE.out k hlt
            have HS1 := Lib.hid (HFS.out k hlt)
            obtain ⟨P, Q, hP, p1, p2, p3, p4, p5, p6, p7, p8⟩ := HPQ.out k hlt
            rw [← hP] at hdt
            rw [← hP] at e1
            clear hP e2 hg
            generalize dotR (partW xs P c) vs = y at *
            by_cases hc1 : cls (rowD c xs vs k) ≤ 1
            · rw [e1, if_pos hc1] at hdt
              have HS2 : Hid (finB (gemV r c xs vs) (k + 1) = finB (gemV r c xs vs) k) := Lib.hid (by rw [HS1.out, decide_eq_true hc1, Bool.and_true])
              clear e1 hc1 HS1
              cases ob
              all_goals
                go_wp2_with fail
                refine hdt.mono ?_
                rintro e w12 ⟨rfl, b12⟩
                have hB2 := below_both hB b12
                clear hdt b12
                go_wp2
                exact ⟨⟨k + 1, _, by omega, by simp, rfl, Lib.hid (by rw [HS2.out]; exact HO.out), hB2⟩, by simp [intOf]; omega⟩
            · rw [e1, if_neg hc1] at hdt
              have HS2 : Hid (true = !finB (gemV r c xs vs) (k + 1)) := Lib.hid (by rw [HS1.out, decide_eq_false hc1, Bool.and_false]; rfl)
              clear e1 hc1 HS1
              cases ob
              all_goals
                go_wp2_with fail
                refine hdt.mono ?_
                rintro e w12 ⟨rfl, b12⟩
                have hB2 := below_both hB b12
                clear hdt b12
                go_wp2
                exact ⟨⟨k + 1, true, by omega, by simp, rfl, HS2, hB2⟩, by simp [intOf]; omega⟩
          · obtain rfl : k = r := by omega
            obtain rfl : ob = true := by rw [HO.out, HFB.out]; rfl
            go_wp2_with fail
            go_meet
            exact hB
    · obtain ⟨hGE, hGZ⟩ := HA0.out hE
      subst hGE hGZ
      obtain rfl : n5 = 0 := by
        obtain ⟨a8, c8, e8⟩ := A5.slice
        simp only [Value.slice.injEq, List.length_nil] at e8
        exact e8.2.1
      have d1 : (GE != 0) = true := bne_iff_ne.2 hE
      have d2 : (GE != GE) = false := by simp
      clear hE A5
      go_wp2_with fail
      go_meet
      exact Below.refl _ _
  obtain ⟨w12, rfl⟩ : ∃ wo, wo = wc := ⟨_, rfl⟩
  replace B := below_both B hcut
  replace G := G.behind hcut
  replace A6 := Lib.hid (A6.out.behind hcut)
  replace K6 := K6.behind hcut
  clear hcut c0 c1 c2 HA0 HB0 A5 HCX
  obtain ⟨D, hD⟩ : ∃ D, D = if F = 0 then gerA R C xs vs us else [] := ⟨_, rfl⟩
  have HD0 : Hid (F = 0 → D = gerA R C xs vs us) := Lib.hid (fun h => by rw [hD, if_pos h])
  have HD1 : Hid (F ≠ 0 → D = []) := Lib.hid (fun h => by rw [hD, if_neg h])
  have HGL : Hid (∀ k, k < xs.length → plusU (lim xs k) (timesU (lim vs (k / C.toNat)) (lim us (k % C.toNat))) ≤ 18446744073709551615) := Lib.hid (fun k _ => plusU_lt (by have := lim_lt HXX.out.2.2.2.1 (by decide : 0 < 18446744073709551616) k; omega) (timesU_lt _ _))
  have HDL : Hid (Low 18446744073709551616 D) := Lib.hid (by
    rw [hD]; split
    · exact rowV_low fun k _ => plusU_lt (by have := lim_lt HXX.out.2.2.2.1 (by decide : 0 < 18446744073709551616) k; omega) (timesU_lt _ _)
    · intro y hy; cases hy)
  have HDN : Hid (D.length ≤ 17592186044416 ∧ (F = 0 → mayM R C D.length = true)) := Lib.hid (by
    by_cases h : F = 0
    · obtain ⟨r, c, hr, hc, r1, r2, c1', c2', hmn, k1, k2, k3⟩ := HC0.out h
      have hl : D.length = m := by
        rw [hD, if_pos h]
        unfold gerA gerV
        rw [rowV_length, hr, hc, Int.toNat_natCast, Int.toNat_natCast, hmn]
      have := Nat.mul_le_mul r2 c2'
      exact ⟨by omega, fun _ => by rw [hl]; exact k3⟩
    · rw [hD, if_neg h]; exact ⟨by simp, fun h2 => absurd h2 h⟩)
  clear hD
  have c0 := G.cell (i := 0) rfl
  have c1 := G.cell (i := 1) rfl
  have c2 := G.cell (i := 2) rfl
  go_upto_block 2 with (fail)
  go_cut [17] from 18 to 193 (fun q wx => OwnK .u64 32 w12.heap.size wx q (zn D) ∧ Below w12.heap.size w12 wx)
  case first =>
   as_aux_lemma =>
    by_cases hF : F = 0
    · obtain ⟨r, c, hr, hc, r1, r2, c1', c2', hmn, k1, k2, k3⟩ := HC0.out hF
      have hD := HD0.out hF
      have k1' := k1.symm
      have k2' := k2.symm
      clear k1 k2
      subst hr hc hF k1' k2'
      obtain ⟨hA, hV, hU, hx, hv, hu, hxn, hvn, hun⟩ := HXX.out
      obtain ⟨hmx, hnv, hlu⟩ := HL.out
      obtain ⟨S, sa, sc, hS, es1, _, HXO⟩ := hA.opened
      simp only [Value.slice.injEq] at es1
      obtain ⟨rfl, -, rfl⟩ := es1
      obtain ⟨T, ta, tc, hT, et1, _, HVO⟩ := hV.opened
      simp only [Value.slice.injEq] at et1
      obtain ⟨rfl, -, rfl⟩ := et1
      obtain ⟨V, va, vc, hV', ev1, _, HUO⟩ := hU.opened
      simp only [Value.slice.injEq] at ev1
      obtain ⟨rfl, -, rfl⟩ := ev1
      rw [← hmx] at HXO
      rw [← hnv] at HVO
      rw [← hlu] at HUO
      have hrc := Nat.mul_le_mul r2 c2'
      have hm0 : 0 < m := by rw [hmn]; exact Nat.mul_pos (by omega) (by omega)
      obtain ⟨oa, rfl, -⟩ := HXO.out w (Below.refl _ _) 0 hm0
      obtain ⟨ov, rfl, -⟩ := HVO.out w (Below.refl _ _) 0 (by omega)
      obtain ⟨ou, rfl, -⟩ := HUO.out w (Below.refl _ _) 0 (by omega)
      have HIX : Hid (∀ k, k < m → k / c < r ∧ k % c < c) := Lib.hid (fun k hk => ⟨(Nat.div_lt_iff_lt_mul (by omega)).2 (by rw [← hmn]; exact hk), Nat.mod_lt _ (by omega)⟩)
      obtain ⟨QF, hQF⟩ : ∃ QF : Nat → List Nat, QF = fun k => rowV k (gerG c xs vs us) := ⟨_, rfl⟩
      have HQS : Hid (∀ k, QF (k + 1) = QF k ++ [plusU (lim xs k) (timesU (lim vs (k / c)) (lim us (k % c)))]) := Lib.hid (fun k => by rw [hQF]; exact rowV_succ _ _)
      have HQL : Hid (∀ k, (QF k).length = k) := Lib.hid (fun k => by rw [hQF]; exact rowV_length _ _)
      have HQ0 : Hid (QF 0 = []) := Lib.hid (by rw [hQF]; rfl)
      have HQD : Hid (QF m = D) := Lib.hid (by
        rw [hQF, hD, hmn]; unfold gerA gerV
        rw [Int.toNat_natCast, Int.toNat_natCast])
      have HXL := Lib.hid (fun k => lim_lt hx (by decide : 0 < 18446744073709551616) k)
      have HVL := Lib.hid (fun k => lim_lt hv (by decide : 0 < 18446744073709551616) k)
      have HUL := Lib.hid (fun k => lim_lt hu (by decide : 0 < 18446744073709551616) k)
      have HG := Lib.hid G
      have HBB := Lib.hid B
      have hm4 : (m : Int) ≤ 4096 := by omega
      clear hQF hD hA hV hU hx hv hu hxn hvn hun hmx hnv hlu hmn hrc HD0 HD1 HGL HDL HDN HC0 G B k3 c0 c1
      go_wp2_with fail
      go_loopw [17, 18] (fun q i wr => ∃ k : Nat, k ≤ m ∧ i = .int .i64 k ∧ OwnK .u64 32 w12.heap.size wr q (zn (QF k)) ∧ Below w12.heap.size w12 wr) (fun _ i _ => m - (intOf i).toNat)
      case atStart => exact ⟨0, Nat.zero_le _, rfl, by rw [HQ0.out]; exact OwnK.nil _ _ _ _, Below.refl _ _⟩
      case round =>
        obtain ⟨k, hk, rfl, hQ, hB⟩ := hrel
        have hg := HG.out.behind hB
        have c2 : wr.cell? ⟨w.heap.size, 2, none⟩ = some (.slice (some ⟨S, oa, none⟩) m cap) := hg.cell (i := 2) rfl
        by_cases hlt : k < m
        · have hBw := below_both HBB.out hB
          obtain ⟨i1, i2⟩ := HIX.out k hlt
          have hqw : IntKind.i64.wrap ((k : Int) / (c : Int)) = ((k / c : Nat) : Int) := by
            rw [← Int.natCast_ediv]
            have h9 := Nat.div_le_self k c
            generalize k / c = y at h9 ⊢
            exact IntWalk.i64_in _ (by omega)
          have hrw : (k : Int) % (c : Int) = ((k % c : Nat) : Int) := by rw [Int.natCast_emod]
          have hrt : (k : Int).tmod (c : Int) = ((k % c : Nat) : Int) := by first | exact (Int.ofNat_tmod k c).symm | exact (Int.natCast_tmod k c).symm | (rw [Int.tmod_eq_emod_of_nonneg (by omega)]; exact hrw)
          have HQ1 := Lib.hid (HQS.out k)
          obtain ⟨qi, hqi⟩ : ∃ q, q = k / c := ⟨_, rfl⟩
          obtain ⟨ri, hri⟩ : ∃ r, r = k % c := ⟨_, rfl⟩
          rw [← hqi] at hqw i1 HQ1
          rw [← hri] at hrw hrt i2 HQ1
          have HK : Hid (∀ W, Below wr.heap.size wr W → W.cell? ⟨w.heap.size, 1, none⟩ = some (.int .i64 (c : Int)) ∧ W.cell? ⟨T, ov + qi, none⟩ = some (.int .u64 (lim vs qi : Int)) ∧ W.cell? ⟨V, ou + ri, none⟩ = some (.int .u64 (lim us ri : Int))) := Lib.hid (fun W h => by
            refine ⟨(hg.behind h).cell (i := 1) rfl, ?_, ?_⟩
            · obtain ⟨o2, e2, k5⟩ := HVO.out W (below_both hBw h) qi i1
              simp only [Option.some.injEq, Addr.mk.injEq, true_and, and_true] at e2
              subst e2
              exact k5
            · obtain ⟨o2, e2, k5⟩ := HUO.out W (below_both hBw h) ri i2
              simp only [Option.some.injEq, Addr.mk.injEq, true_and, and_true] at e2
              subst e2
              exact k5)
          have HK2 : Hid (∀ W, Below wr.heap.size wr W → W.cell? ⟨w.heap.size, 2, none⟩ = some (.slice (some ⟨S, oa, none⟩) m cap) ∧ W.cell? ⟨S, oa + k, none⟩ = some (.int .u64 (lim xs k : Int))) := Lib.hid (fun W h => by
            refine ⟨(hg.behind h).cell (i := 2) rfl, ?_⟩
            obtain ⟨o2, e2, k5⟩ := HXO.out W (below_both hBw h) k hlt
            simp only [Option.some.injEq, Addr.mk.injEq, true_and, and_true] at e2
            subst e2
            exact k5)
          have hql : (zn (QF k)).length + 1 ≤ 17592186044416 := by rw [zn_length, HQL.out]; omega
          have l1 := HXL.out k
          have l2 := HVL.out qi
          have l3 := HUL.out ri
          have hM1 := fun w => fmul_mul (a := lim vs qi) (b := lim us ri) (mode := 0) (w := w) (by omega) (by omega)
          rw [show (rmul (lim vs qi) (lim us ri) 0).1 = timesU (lim vs qi) (lim us ri) from rfl] at hM1
          have hA1 := fun w => fadd_add (a := lim xs k) (b := timesU (lim vs qi) (lim us ri)) (mode := 0) (w := w) (by omega) (by have := timesU_lt (lim vs qi) (lim us ri); omega)
          rw [show (radd (lim xs k) (timesU (lim vs qi) (lim us ri)) 0).1 = plusU (lim xs k) (timesU (lim vs qi) (lim us ri)) from rfl] at hA1
          have HM1 := Lib.hid hM1
          have HA1 := Lib.hid hA1
          have hCz : ¬ c = 0 := by omega
          have hiq : (qi : Int) < (r : Int) := by omega
          have hir : (ri : Int) < (c : Int) := by omega
          have hBs := hB.size
          clear hM1 hA1 l1 l2 l3 hqi hri hg hBw i1 i2
          generalize (rmul (lim vs qi) (lim us ri) 0).2 = fl1 at *
          generalize (radd (lim xs k) (timesU (lim vs qi) (lim us ri)) 0).2 = fl2 at *
          generalize plusU (lim xs k) (timesU (lim vs qi) (lim us ri)) = su at *
          generalize timesU (lim vs qi) (lim us ri) = pu at *
          generalize lim xs k = x at *
          generalize lim vs qi = y at *
          generalize lim us ri = z at *
          have Br : Below wr.heap.size wr wr := Below.refl _ _
          go_wp2_with fail
          go_region_held3 (fun W => W.cell? ⟨w.heap.size, 1, none⟩ = some (.int .i64 (c : Int)) ∧ W.cell? ⟨T, ov + qi, none⟩ = some (.int .u64 (y : Int)) ∧ W.cell? ⟨V, ou + ri, none⟩ = some (.int .u64 (z : Int)))
            (first | with_reducible exact HK.out _ Br | with_reducible exact HK.out _ Br.drew | (refine ⟨?_, ?_, ?_⟩ <;> go_keep))
            (first
              | (go_at_call 30; (with_reducible refine (HM1.out _).mono ?_); rintro e v4 ⟨rfl, bz⟩; (first | replace Br := below_both Br bz | replace Br := below_both Br.drew bz); clear bz))
          obtain ⟨s1, s2⟩ := HK2.out _ Br
          go_wp2_with fail
          refine (HA1.out _).mono ?_
          rintro e v5 ⟨rfl, bz⟩
          replace Br := below_both Br bz
          clear bz s1 s2
          have hQ2 := hQ.below Br
          have hB2 := below_both hB Br
          have hsz2 := hB2.size
          go_wp2_with (at_builtin; refine app_u64 rfl _ _ rfl rfl rfl (cell_new1 _ _ _) (hQ2.alloc _) hql (by rw [World.size_alloc]; omega) ?_; intro v' w7 hQ3 b7)
          have hbb := hB2.trans (((Below.refl w12.heap.size _).alloc hB2.size _).trans b7)
          have hqq := hQ3
          rw [← zn_snoc, ← HQ1.out] at hqq
          exact ⟨⟨k + 1, by omega, by simp, hqq, hbb⟩, by simp [intOf]; omega⟩
        · obtain rfl : k = m := by omega
          clear hlt
          rw [HQD.out] at hQ
          go_wp2_with fail
          go_meet
          exact ⟨hQ, hB⟩
    · have hD := HD1.out hF
      have d : (F == 0) = false := beq_eq_false_iff_ne.2 hF
      subst hD
      clear hF HD0 HD1 HGL HDL HDN HC0
      go_wp2_with fail
      go_loopw [17, 18] (fun q i wr => q = .slice none 0 0 ∧ i = .int .i64 0 ∧ Below w12.heap.size w12 wr) (fun _ i _ => 0)
      case atStart => exact ⟨rfl, rfl, Below.refl _ _⟩
      case round =>
        obtain ⟨rfl, rfl, hB⟩ := hrel
        go_wp2_with fail
        go_meet
        exact ⟨OwnK.nil _ _ _ _, hB⟩
  obtain ⟨hQ, hB⟩ := hcut
  have hBw := below_both B hB
  have hpw := Nat.lt_of_lt_of_le hpos hBw.size
  have nQ := new_zn.2 (hQ.new (Nat.lt_of_lt_of_le hpos hBw.size))
  have aQ := nQ.arg
  obtain ⟨qa, qc, eq⟩ := aQ.slice
  subst eq
  have A6' := A6.out.behind hB
  have e1 := tellV_like (ws := gerA R C xs vs us) (ws' := D) (f := F) (fun h => (HD0.out h).symm)
  rw [e1.2] at A6'
  have HR6' := HR6.out
  rw [e1.1] at HR6'
  rw [e1.1]
  have HI := Lib.hid (l20_told (R := R) (C := C) (R2 := R6) (C2 := C6) A6' aQ HDL.out HDN.out.1 HDN.out.2 HR6')
  generalize tellV D F = X1 at *
  replace G := G.behind hB
  replace K6 := K6.behind hB
  clear c0 c1 c2 A6' aQ nQ hQ e1 HR6' HR6 A6 HD0 HD1 HGL HDL HC0
  generalize D.length = dl at *
  have c0 := G.cell (i := 0) rfl
  have c1 := G.cell (i := 1) rfl
  have c2 := G.cell (i := 2) rfl
  have u0 := K6.cell (i := 0) rfl
  have u1 := K6.cell (i := 1) rfl
  have u2 := K6.cell (i := 2) rfl
  go_wp2_with fail
  refine HI.out.mono ?_
  rintro e w13 ⟨rfl, k13⟩
  have HBZ := Lib.hid (below_both hBw k13)
  go_wp2
  go_ret
  exact ⟨rfl, HBZ.out⟩
end Go.Proofs.Ytdcebkhdnhdejaa
