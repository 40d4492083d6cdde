/- vernierlaw14.ShapeTurns, walked. -/
import Derived.Test.YtaefalmabphadaaShLaw
import Derived.BigQuiet
import Derived.Deep.QuietTactic
import Derived.Deep.RegionHeld3
namespace Go.Proofs.Ytaefalmabphadaa
open Go.RowKit Go.Shelf
theorem same14 {a b : Option Addr} {m cap bap : Nat} {R C : Int} {xs : List Nat} {w : World} (hA : Arg w (.slice a m cap) xs) (hB : Arg w (.slice b m bap) xs) (hl : xs.length ≤ 4096) :
    Calls Try.prog 21 #[.agg #[.int .i64 R, .int .i64 C, .slice a m cap], .agg #[.int .i64 R, .int .i64 C, .slice b m bap]] w fun e W' => e = .returned (.bool true) ∧ Below w.heap.size w W' := by
  obtain ⟨b1, G1⟩ := mbox w #[.int .i64 R, .int .i64 C, .slice a m cap] 24 _ rfl
  obtain ⟨b2, G2⟩ := mbox (w.alloc (.cells #[.int .i64 R, .int .i64 C, .slice a m cap] 24)) #[.int .i64 R, .int .i64 C, .slice b m bap] 24 _ rfl
  replace G1 := G1.behind b2
  replace hA := (hA.behind b1).behind b2
  replace hB := (hB.behind b1).behind b2
  have bb := below_both b1 b2
  have c00 := G1.cell (i := 0) rfl
  have c01 := G1.cell (i := 1) rfl
  have c02 := G1.cell (i := 2) rfl
  have d00 := G2.cell (i := 0) rfl
  have d01 := G2.cell (i := 1) rfl
  have d02 := G2.cell (i := 2) rfl
  obtain ⟨S, _, hR⟩ := hA
  obtain ⟨T, _, hT⟩ := hB
  simp only [World.size_alloc] at d00 d01 d02
  go_enter Try.func21, Try.ntmps21
  go_wp2_with fail
  refine (same_true S T _ _ xs (by omega) _ hR hT).mono ?_
  rintro e w1 ⟨rfl, b3⟩
  go_wp2
  go_ret
  exact ⟨rfl, below_both bb b3⟩
set_option maxRecDepth 100000 in
set_option maxHeartbeats 8000000 in
theorem shapeTurns_calls {a : Option Addr} {m cap : Nat} {R C : Int} {xs : List Nat} {w : World} (hA : Arg w (.slice a m cap) xs) (hl : Low 18446744073709551616 xs) (h1 : -9223372036854775808 ≤ R) (h2 : R < 9223372036854775808) (h3 : -9223372036854775808 ≤ C) (h4 : C < 9223372036854775808) :
    Calls Try.prog 4 #[.agg #[.int .i64 R, .int .i64 C, .slice a m cap]] w fun e W' => e = .returned (.bool true) ∧ Below w.heap.size w W' := by
  obtain ⟨bx, G1⟩ := mbox w #[.int .i64 R, .int .i64 C, .slice a m cap] 24 _ rfl
  have hms := fun w => may14 (a := a) (m := m) (cap := cap) (w := w) h1 h2 h3 h4
  by_cases hm : mayM R C m = true
  · rw [hm] at hms
    have hm' := mayM_iff.1 hm
    obtain ⟨r, rfl⟩ : ∃ r : Nat, R = r := ⟨R.toNat, by omega⟩
    obtain ⟨c, rfl⟩ : ∃ c : Nat, C = c := ⟨C.toNat, by omega⟩
    have hml : m = r * c := by have := hm'.2.2.2.2; exact_mod_cast this
    have hr : r ≤ 64 ∧ 1 ≤ r := by omega
    have hc : c ≤ 64 ∧ 1 ≤ c := by omega
    have hlen : xs.length = r * c := by
      obtain ⟨S, _, hR⟩ := hA
      obtain ⟨_, _, he, _⟩ := hR.slice
      simp only [Value.slice.injEq] at he
      omega
    have hrc : r * c ≤ 4096 := by
      have := Nat.mul_le_mul hr.1 hc.1
      omega
    have hcr : c * r = r * c := Nat.mul_comm c r
    have hm2 : mayM c r m = true := mayM_iff.2 ⟨by omega, by omega, by omega, by omega, by rw [hml, ← hcr]; simp⟩
    have hT1 : ∀ W : World, Arg W (.slice a m cap) xs → Calls Try.prog 23 #[.agg #[.int .i64 (r : Int), .int .i64 (c : Int), .slice a m cap]] W fun e W' => ∃ b k, e = .returned (.tuple #[.agg #[.int .i64 (c : Int), .int .i64 (r : Int), .slice b m k], .int .i64 0]) ∧ New W.heap.size W' (.slice b m k) (trl r c xs) ∧ Below W.heap.size W W' := by
      intro W h
      have := shape_turn h hl hm
      rw [← hml] at this
      exact this
    have hT2 : ∀ (W : World) (b : Option Addr) (k : Nat), Arg W (.slice b m k) (trl r c xs) → Calls Try.prog 23 #[.agg #[.int .i64 (c : Int), .int .i64 (r : Int), .slice b m k]] W fun e W' => ∃ d l, e = .returned (.tuple #[.agg #[.int .i64 (r : Int), .int .i64 (c : Int), .slice d m l], .int .i64 0]) ∧ New W.heap.size W' (.slice d m l) xs ∧ Below W.heap.size W W' := by
      intro W b k h
      have := shape_turn h (trl_low hl) hm2
      rw [hcr, ← hml, trl_trl hlen] at this
      exact this
    have hxm : xs.length = m := by rw [hlen, hml]
    have htm : (trl r c xs).length = m := by rw [trl_length, hml]
    have hpl : ∀ i j, i < r → j < c → i * c + j < m ∧ j * r + i < m ∧ lim (trl r c xs) (j * r + i) = lim xs (i * c + j) := by
      intro i j hi hj
      refine ⟨?_, ?_, trl_lim xs hi hj⟩
      · have := place_lt (R := c) (C := r) hj hi
        rw [hml, ← hcr]; exact this
      · have := place_lt (R := r) (C := c) hi hj
        rw [hml]; exact this
    have hm64 : m ≤ 4096 := by omega
    have hlow := lim_lt_low hl
    have HT1 := Lib.hid hT1
    have HT2 := Lib.hid hT2
    have HPL := Lib.hid hpl
    have HLOW := Lib.hid hlow
    clear hT1 hT2 hpl hlow hlen hml hrc hcr hm hm' hm2 h1 h2 h3 h4 hl
    generalize trl r c xs = ys at *
    go_enter Try.func4, Try.ntmps4
    go_wp2_with fail
    generalize (w.alloc (.cells #[.int .i64 (r : Int), .int .i64 (c : Int), .slice a m cap] 24)) = W0 at bx G1 ⊢
    replace hA := hA.behind bx
    refine (halive W0).mono ?_
    rintro e w1 ⟨rfl, b1⟩
    replace hA := hA.behind b1
    replace G1 := G1.behind b1
    replace bx := below_both bx b1
    clear b1
    have c00 := G1.cell (i := 0) rfl
    have c01 := G1.cell (i := 1) rfl
    have c02 := G1.cell (i := 2) rfl
    go_wp2_with fail
    refine (HT1.out _ hA).mono ?_
    rintro e w2 ⟨b, k0, rfl, hN, b2⟩
    obtain ⟨by2, G3⟩ := mbox w2 #[.int .i64 (c : Int), .int .i64 (r : Int), .slice b m k0] 24 _ rfl
    have hB := hN.arg.behind by2
    replace hA := (hA.behind b2).behind by2
    replace G1 := (G1.behind b2).behind by2
    replace bx := below_both (below_both bx b2) by2
    clear b2 hN c00 c01 c02 by2
    have c00 := G1.cell (i := 0) rfl
    have c01 := G1.cell (i := 1) rfl
    have c02 := G1.cell (i := 2) rfl
    go_wp2_with fail
    refine (hms _).mono ?_
    rintro e w3 ⟨rfl, b3⟩
    replace hA := hA.behind b3
    replace hB := hB.behind b3
    replace G1 := G1.behind b3
    replace G3 := G3.behind b3
    replace bx := below_both bx b3
    clear b3 c00 c01 c02 hms
    have c00 := G3.cell (i := 0) rfl
    have c01 := G3.cell (i := 1) rfl
    have c02 := G3.cell (i := 2) rfl
    go_wp2_with fail
    refine (HT2.out _ _ _ hB).mono ?_
    rintro e w4 ⟨d, k2, rfl, hN, b4⟩
    obtain ⟨by2, G5⟩ := mbox w4 #[.int .i64 (r : Int), .int .i64 (c : Int), .slice d m k2] 24 _ rfl
    have hD := hN.arg.behind by2
    replace hA := (hA.behind b4).behind by2
    replace hB := (hB.behind b4).behind by2
    replace G1 := (G1.behind b4).behind by2
    replace G3 := (G3.behind b4).behind by2
    replace bx := below_both (below_both bx b4) by2
    clear b4 hN c00 c01 c02 by2 HT1 HT2
    go_upto_region 7 with (fail)
    generalize (w4.alloc (.cells #[.int .i64 (r : Int), .int .i64 (c : Int), .slice d m k2] 24)) = W5 at bx hA hB hD G1 G3 G5 ⊢
    -- where the words stand
    have hA' := hA
    have hD' := hD
    obtain ⟨S1, q1, R1⟩ := hA
    obtain ⟨a', cap', he1, hcc1, ho1⟩ := R1.slice
    simp only [Value.slice.injEq] at he1
    obtain ⟨rfl, hmm1, rfl⟩ := he1
    obtain ⟨o1, rfl⟩ := ho1 (by have := (HPL.out 0 0 (by omega) (by omega)).1; omega)
    obtain ⟨S2, q2, R2⟩ := hB
    obtain ⟨b', bap', he2, hcc2, ho2⟩ := R2.slice
    simp only [Value.slice.injEq] at he2
    obtain ⟨rfl, hmm2, rfl⟩ := he2
    obtain ⟨o2, rfl⟩ := ho2 (by have := (HPL.out 0 0 (by omega) (by omega)).1; omega)
    have HR1 : Hid (∀ p, p < m → W5.cell? ⟨S1, o1 + p, none⟩ = some (.int .u64 (lim xs p : Int))) := Lib.hid fun p hp => R1.cell (by omega)
    have HR2 : Hid (∀ p, p < m → W5.cell? ⟨S2, o2 + p, none⟩ = some (.int .u64 (lim ys p : Int))) := Lib.hid fun p hp => R2.cell (by omega)
    have hxl : xs.length ≤ 4096 := by omega
    clear R1 R2 ho1 ho2 hmm1 hmm2 hcc1 hcc2 hxm htm
    go_wp2
    go_loopw [7] (fun i wr => ∃ k : Nat, k ≤ r ∧ i = .int .i64 k ∧ Below W5.heap.size W5 wr) (fun i _ => r - (intOf i).toNat)
    case atStart => exact ⟨0, by omega, rfl, Below.refl _ _⟩
    case round =>
      obtain ⟨k, hk, rfl, hW⟩ := hrel
      have c00 : wr.cell? ⟨w.heap.size, 0, none⟩ = some (.int .i64 (r : Int)) := (G1.behind hW).cell (i := 0) rfl
      have c01 : wr.cell? ⟨w.heap.size, 1, none⟩ = some (.int .i64 (c : Int)) := (G1.behind hW).cell (i := 1) rfl
      by_cases hlt : k < r
      · go_wp2
        go_loopw [8] (fun i wr => ∃ l : Nat, l ≤ c ∧ i = .int .i64 l ∧ Below W5.heap.size W5 wr) (fun i _ => c - (intOf i).toNat)
        case atStart => exact ⟨0, by omega, rfl, hW⟩
        case round =>
          obtain ⟨l, hl2, rfl, hW2⟩ := hrel
          clear c00 c01
          have c00 : wr.cell? ⟨w.heap.size, 0, none⟩ = some (.int .i64 (r : Int)) := (G1.behind hW2).cell (i := 0) rfl
          have c01 : wr.cell? ⟨w.heap.size, 1, none⟩ = some (.int .i64 (c : Int)) := (G1.behind hW2).cell (i := 1) rfl
          have c02 : wr.cell? ⟨w.heap.size, 2, none⟩ = some (.slice (some ⟨S1, o1, none⟩) m cap) := (G1.behind hW2).cell (i := 2) rfl
          have d02 : wr.cell? ⟨w2.heap.size, 2, none⟩ = some (.slice (some ⟨S2, o2, none⟩) m k0) := (G3.behind hW2).cell (i := 2) rfl
          by_cases hlt2 : l < c
          · obtain ⟨hp, hq, he⟩ := HPL.out k l hlt hlt2
            have kA := (hW2.cell (p := ⟨S1, o1 + (k * c + l), none⟩) q1).trans (HR1.out _ hp)
            have kB := (hW2.cell (p := ⟨S2, o2 + (l * r + k), none⟩) q2).trans (HR2.out _ hq)
            rw [he] at kB
            have e1 : (k : Int) * (c : Int) = ((k * c : Nat) : Int) := by simp
            have e2 : (l : Int) * (r : Int) = ((l * r : Nat) : Int) := by simp
            have hv : (lim xs (k * c + l) : Int) ≤ 18446744073709551615 := by have := HLOW.out (k * c + l); omega
            generalize lim xs (k * c + l) = v at *
            generalize k * c = P1 at *
            generalize l * r = Q1 at *
            have z1 : (P1 : Int) + (l : Int) < (m : Int) := by omega
            have z2 : (Q1 : Int) + (k : Int) < (m : Int) := by omega
            have z3 : (P1 : Int) ≤ 4096 := by omega
            have z4 : (Q1 : Int) ≤ 4096 := by omega
            have z5 : (k : Int) ≤ 64 := by omega
            have z6 : (l : Int) ≤ 64 := by omega
            have z7 : IntKind.i64.wrap ((k : Int) * (c : Int)) = (P1 : Int) := by rw [e1]; exact IntWalk.i64_in _ (by omega)
            have z8 : IntKind.i64.wrap ((l : Int) * (r : Int)) = (Q1 : Int) := by rw [e2]; exact IntWalk.i64_in _ (by omega)
            clear he hv
            go_wp2
            go_quiet (fail)
            replace hW2 : Below W5.heap.size W5 (wr.drewN nq) := below_both hW2 (below_drewN _ _ _)
            generalize wr.drewN nq = wd at *
            clear c00 c01 c02 d02 kA kB
            go_wp2
            go_roundw
            case rel => exact ⟨l + 1, by omega, by simp, hW2⟩
            case measure => simp [intOf]; omega
          · obtain rfl : l = c := by omega
            clear c02 d02 hlt2
            go_wp2
            go_roundw
            case rel => exact ⟨k + 1, by omega, by simp, hW2⟩
            case measure => simp [intOf]; omega
      · obtain rfl : k = r := by omega
        clear hlt c00 c01
        have hA2 := hA'.behind hW
        have hD2 := hD'.behind hW
        have c00 : wr.cell? ⟨w.heap.size, 0, none⟩ = some (.int .i64 (k : Int)) := (G1.behind hW).cell (i := 0) rfl
        have c01 : wr.cell? ⟨w.heap.size, 1, none⟩ = some (.int .i64 (c : Int)) := (G1.behind hW).cell (i := 1) rfl
        have c02 : wr.cell? ⟨w.heap.size, 2, none⟩ = some (.slice (some ⟨S1, o1, none⟩) m cap) := (G1.behind hW).cell (i := 2) rfl
        have d00 : wr.cell? ⟨w4.heap.size, 0, none⟩ = some (.int .i64 (k : Int)) := (G5.behind hW).cell (i := 0) rfl
        have d01 : wr.cell? ⟨w4.heap.size, 1, none⟩ = some (.int .i64 (c : Int)) := (G5.behind hW).cell (i := 1) rfl
        have d02 : wr.cell? ⟨w4.heap.size, 2, none⟩ = some (.slice d m k2) := (G5.behind hW).cell (i := 2) rfl
        have hs := same14 (R := (k : Int)) (C := (c : Int)) hA2 hD2 hxl
        clear hA2 hD2
        go_wp2_with fail
        refine hs.mono ?_
        rintro e w8 ⟨rfl, b8⟩
        replace G1 := (G1.behind hW).behind b8
        replace G3 := (G3.behind hW).behind b8
        clear c00 c01 c02 d00 d01 d02
        have c00 : w8.cell? ⟨w.heap.size, 0, none⟩ = some (.int .i64 (k : Int)) := G1.cell (i := 0) rfl
        have c01 : w8.cell? ⟨w.heap.size, 1, none⟩ = some (.int .i64 (c : Int)) := G1.cell (i := 1) rfl
        have d00 : w8.cell? ⟨w2.heap.size, 0, none⟩ = some (.int .i64 (c : Int)) := G3.cell (i := 0) rfl
        have d01 : w8.cell? ⟨w2.heap.size, 1, none⟩ = some (.int .i64 (k : Int)) := G3.cell (i := 1) rfl
        go_wp2
        go_ret
        exact ⟨rfl, below_both (below_both bx hW) b8⟩
  · have hm' : mayM R C m = false := by simpa using hm
    rw [hm'] at hms
    have hT1 : ∀ W : World, Arg W (.slice a m cap) xs → Calls Try.prog 23 #[.agg #[.int .i64 R, .int .i64 C, .slice a m cap]] W fun e W' => ∃ (r k : Int) (b : Option Addr) (c : Nat), e = .returned (.tuple #[.agg #[.int .i64 r, .int .i64 k, .slice b 0 c], .int .i64 11]) ∧ Below W.heap.size W W' := fun W _ => (shape_turn_no hm').mono fun e W' ⟨he, hb⟩ => ⟨0, 0, none, 0, he, hb⟩
    clear hm hm' h1 h2 h3 h4 hl
    go_enter Try.func4, Try.ntmps4
    go_wp2_with fail
    generalize (w.alloc (.cells #[.int .i64 R, .int .i64 C, .slice a m cap] 24)) = W0 at bx G1 ⊢
    replace hA := hA.behind bx
    refine (halive W0).mono ?_
    rintro e w1 ⟨rfl, b1⟩
    replace hA := hA.behind b1
    replace G1 := G1.behind b1
    replace bx := below_both bx b1
    clear b1
    have c00 := G1.cell (i := 0) rfl
    have c01 := G1.cell (i := 1) rfl
    have c02 := G1.cell (i := 2) rfl
    go_wp2_with fail
    refine (hT1 _ hA).mono ?_
    rintro e w2 ⟨r, k, b, k0, rfl, b2⟩
    obtain ⟨by2, G3⟩ := mbox w2 #[.int .i64 r, .int .i64 k, .slice b 0 k0] 24 _ rfl
    replace G1 := (G1.behind b2).behind by2
    replace bx := below_both (below_both bx b2) by2
    clear b2 c00 c01 c02 by2 hT1 hA
    have c00 := G1.cell (i := 0) rfl
    have c01 := G1.cell (i := 1) rfl
    have c02 := G1.cell (i := 2) rfl
    go_wp2_with fail
    refine (hms _).mono ?_
    rintro e w3 ⟨rfl, b3⟩
    replace G3 := G3.behind b3
    replace bx := below_both bx b3
    clear c00 c01 c02 hms b3
    have c02 : w3.cell? ⟨w2.heap.size, 2, none⟩ = some (.slice b 0 k0) := G3.cell (i := 2) rfl
    go_wp2
    go_ret
    exact ⟨rfl, bx⟩
end Go.Proofs.Ytaefalmabphadaa
