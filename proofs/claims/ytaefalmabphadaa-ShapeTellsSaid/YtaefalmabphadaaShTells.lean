/- vernierlaw14.ShapeTells, walked. -/
import Derived.Test.YtaefalmabphadaaShSame
import Derived.Deep.RegionHeld3
import Derived.Deep.DeepCutAuto
namespace Go.Proofs.Ytaefalmabphadaa
open Go.RowKit Go.Shelf
set_option maxRecDepth 100000 in
set_option maxHeartbeats 8000000 in
theorem shapeTells_calls {a b : Option Addr} {m cap m' bap : Nat} {R C R' C' i j : Int} {xs ys : List Nat} {w : World} (hA : Arg w (.slice a m cap) xs) (hB : Arg w (.slice b m' bap) ys) (hl : Low 18446744073709551616 xs)
    (hn : xs.length ≤ 17592186044416) (hn' : ys.length ≤ 17592186044416) (h1 : -9223372036854775808 ≤ R ∧ R < 9223372036854775808) (h2 : -9223372036854775808 ≤ C ∧ C < 9223372036854775808) (h3 : -9223372036854775808 ≤ i ∧ i < 9223372036854775808) (h4 : -9223372036854775808 ≤ j ∧ j < 9223372036854775808) :
    Calls Try.prog 3 #[.agg #[.int .i64 R, .int .i64 C, .slice a m cap], .agg #[.int .i64 R', .int .i64 C', .slice b m' bap], .int .i64 i, .int .i64 j] w fun e W' => e = .returned (.bool true) ∧ Below w.heap.size w W' := by
  obtain ⟨b1, G4⟩ := mbox w #[.int .i64 R, .int .i64 C, .slice a m cap] 24 _ rfl
  obtain ⟨b2, G5⟩ := mbox (w.alloc (.cells #[.int .i64 R, .int .i64 C, .slice a m cap] 24)) #[.int .i64 R', .int .i64 C', .slice b m' bap] 24 _ rfl
  replace G4 := G4.behind b2
  have bb := below_both b1 b2
  replace hA := hA.behind bb
  replace hB := hB.behind bb
  rw [World.size_alloc] at G5
  clear b1 b2
  -- the calls, from the world behind both boxes on
  obtain ⟨W0, hW0⟩ : ∃ W0, W0 = ((w.alloc (.cells #[.int .i64 R, .int .i64 C, .slice a m cap] 24)).alloc (.cells #[.int .i64 R', .int .i64 C', .slice b m' bap] 24)) := ⟨_, rfl⟩
  rw [← hW0] at G4 G5 bb hA hB
  have HCk : Hid (∀ W, Below W0.heap.size W0 W → Calls Try.prog 18 #[.agg #[.int .i64 R, .int .i64 C, .slice a m cap]] W fun e W' => e = .returned (.int .i64 (chkM R C m)) ∧ Below W.heap.size W W') := Lib.hid fun W _ => shape_check
  have HFi : Hid (∀ W, Below W0.heap.size W0 W → Calls Try.prog 19 #[.agg #[.int .i64 R, .int .i64 C, .slice a m cap]] W fun e W' => e = .returned (.int .i64 (finM R C m xs)) ∧ Below W.heap.size W W') := Lib.hid fun W h => shape_finite (hA.behind h) hl
  have HSa : Hid (∀ W, Below W0.heap.size W0 W → Calls Try.prog 20 #[.agg #[.int .i64 R, .int .i64 C, .slice a m cap], .agg #[.int .i64 R', .int .i64 C', .slice b m' bap]] W fun e W' => e = .returned (.bool (sameM R C R' C' xs ys)) ∧ Below W.heap.size W W') := Lib.hid fun W h => shape_same (hA.behind h) (hB.behind h) hn hn'
  have HSl : Hid (∀ W, Below W0.heap.size W0 W → Calls Try.prog 21 #[.agg #[.int .i64 R, .int .i64 C, .slice a m cap], .agg #[.int .i64 R', .int .i64 C', .slice b m' bap]] W fun e W' => e = .returned (.bool (sameM R C R' C' xs ys)) ∧ Below W.heap.size W W') := Lib.hid fun W h => same14g (hA.behind h) (hB.behind h) hn hn'
  have HAt : Hid (∀ W, Below W0.heap.size W0 W → Calls Try.prog 17 #[.agg #[.int .i64 R, .int .i64 C, .slice a m cap], .int .i64 i, .int .i64 j] W fun e W' => e = .returned (.tuple #[.int .u64 ((atM R C m xs i j).1 : Int), .int .i64 (atM R C m xs i j).2]) ∧ Below W.heap.size W W') := Lib.hid fun W h => shape_at (hA.behind h) h3.1 h3.2 h4.1 h4.2
  have HMy : Hid (∀ W, Below W0.heap.size W0 W → Calls Try.prog 15 #[.agg #[.int .i64 R, .int .i64 C, .slice a m cap]] W fun e W' => e = .returned (.bool (mayM R C m)) ∧ Below W.heap.size W W') := Lib.hid fun W _ => may14 h1.1 h1.2 h2.1 h2.2
  have hsz : w.heap.size < W0.heap.size ∧ w.heap.size + 1 < W0.heap.size := ⟨G4.lt, G5.lt⟩
  generalize sameM R C R' C' xs ys = sm at *
  by_cases hm : mayM R C m = true
  · have e1 : chkM R C m = 0 := by unfold chkM; rw [hm]; rfl
    have e2 : finM R C m xs = finU xs m := by unfold finM; rw [hm]; rfl
    have e3 : atM R C m xs i j = if outM R C i j then (0, 4) else (lim xs (i * C + j).toNat, 0) := by unfold atM; rw [hm]; rfl
    obtain ⟨m1, m2, m3, m4, m5⟩ := mayM_iff.1 hm
    obtain ⟨r, rfl⟩ : ∃ r : Nat, R = r := ⟨R.toNat, by omega⟩
    obtain ⟨c, rfl⟩ : ∃ c : Nat, C = c := ⟨C.toNat, by omega⟩
    have hrc : r * c = m := by exact_mod_cast m5.symm
    have hm4 : m ≤ 4096 := by
      have := Nat.mul_le_mul (show r ≤ 64 by omega) (show c ≤ 64 by omega)
      omega
    rw [e1] at HCk
    rw [e2] at HFi
    rw [hm] at HMy
    obtain ⟨AT, hAT⟩ : ∃ AT, atM (r : Int) (c : Int) m xs i j = AT := ⟨_, rfl⟩
    rw [hAT] at HAt e3
    obtain ⟨A1, A2⟩ := AT
    dsimp only at HAt
    obtain ⟨S1, q1, R1⟩ := hA
    obtain ⟨a', cap', he1, hcc1, ho1⟩ := R1.slice
    simp only [Value.slice.injEq] at he1
    obtain ⟨rfl, hmm1, rfl⟩ := he1
    obtain ⟨o1, rfl⟩ := ho1 (by rw [← hmm1, ← hrc]; exact Nat.mul_pos (by omega) (by omega))
    have HR1 : Hid (∀ p, p < m → W0.cell? ⟨S1, o1 + p, none⟩ = some (.int .u64 (lim xs p : Int))) := Lib.hid fun p hp => R1.cell (by omega)
    have HLOW := Lib.hid (lim_lt_low hl)
    have hfs : ∀ k, finU xs (k + 1) = if 2 ≤ cls (lim xs k) then 12 else finU xs k := fun _ => rfl
    have HFS := Lib.hid hfs
    have HF0 : Hid (finU xs 0 = 0) := Lib.hid rfl
    -- what the place's word is
    have hpl : outM (r : Int) (c : Int) i j = false → 0 ≤ i ∧ i < r ∧ 0 ≤ j ∧ j < c ∧ (i * c + j).toNat < m ∧ i * c = ((i.toNat * c : Nat) : Int) ∧ (i * c + j).toNat = i.toNat * c + j.toNat := by
      intro h
      unfold outM at h
      simp only [Bool.or_eq_false_iff, decide_eq_false_iff_not] at h
      obtain ⟨i', rfl⟩ : ∃ i' : Nat, i = i' := ⟨i.toNat, by omega⟩
      obtain ⟨j', rfl⟩ : ∃ j' : Nat, j = j' := ⟨j.toNat, by omega⟩
      have hp := place_lt (R := c) (C := r) (i := j') (j := i') (by omega) (by omega)
      rw [Nat.mul_comm c r, hrc] at hp
      have e : ((i' : Int) * (c : Int)) = ((i' * c : Nat) : Int) := by simp
      rw [e]
      simp only [Int.toNat_natCast]
      exact ⟨by omega, by omega, by omega, by omega, by omega, trivial, by omega⟩
    have HPL := Lib.hid hpl
    have E3 := Lib.hid e3
    clear e1 e2 e3 hm hB hl hn hn' R1 ho1 hmm1 hcc1 hrc m5 hAT hfs hpl
    go_enter Try.func3, Try.ntmps3
    have c00 := G4.cell (i := 0) rfl
    have c01 := G4.cell (i := 1) rfl
    have c02 := G4.cell (i := 2) rfl
    rw [hW0] at c00 c01 c02
    go_wp2_with fail
    rw [← hW0]
    clear hW0 c00 c01 c02
    refine (HMy.out _ (Below.refl _ _)).mono ?_
    rintro e w1 ⟨rfl, b1⟩
    go_wp2
    generalize finU xs = fs at *
    go_loopw [10, 13] (fun f i wr => ∃ (k : Nat) (z : Int), k ≤ m ∧ i = .int .i64 k ∧ f = .int .i64 z ∧ Hid (fs k = z) ∧ Below W0.heap.size W0 wr) (fun _ i _ => m - (intOf i).toNat)
    case atStart => exact ⟨0, 0, by omega, rfl, rfl, HF0, b1⟩
    case round =>
      obtain ⟨k, z, hk, rfl, rfl, hz, hW⟩ := hrel
      have c02 : wr.cell? ⟨w.heap.size, 2, none⟩ = some (.slice (some ⟨S1, o1, none⟩) m cap) := (G4.behind hW).cell (i := 2) rfl
      by_cases hlt : k < m
      · have kA := (hW.cell (p := ⟨S1, o1 + k, none⟩) q1).trans (HR1.out _ hlt)
        have hq : (lim xs k : Int) ≤ 18446744073709551615 := by have := HLOW.out k; omega
        have hcl := fun w => class6 (W := w) hq
        have hst := HFS.out k
        obtain ⟨z2, hz2⟩ : ∃ z2, fs (k + 1) = z2 := ⟨_, rfl⟩
        rw [hz2, hz.out] at hst
        have hway : (decide ((1 : Int) < (cls (lim xs k) : Int)) = true ∧ z2 = 12) ∨ (decide ((1 : Int) < (cls (lim xs k) : Int)) = false ∧ z2 = z) := by
          by_cases h : 2 ≤ cls (lim xs k)
          · exact .inl ⟨decide_eq_true (by omega), by rw [hst, if_pos h]⟩
          · exact .inr ⟨decide_eq_false (by omega), by rw [hst, if_neg h]⟩
        have HZ2 := Lib.hid hz2
        clear hq hst hz2
        generalize cls (lim xs k) = cq at *
        generalize lim xs k = q at *
        go_wp2_with fail
        refine (hcl _).mono ?_
        rintro e w2 ⟨rfl, rfl⟩
        clear hcl
        rcases hway with ⟨d, rfl⟩ | ⟨d, rfl⟩
        all_goals
          go_wp2
          go_roundw
          case rel => exact ⟨k + 1, _, by omega, by simp, rfl, HZ2, hW⟩
          case measure => simp [intOf]; omega
      · obtain rfl : k = m := by omega
        clear hlt
        have c00 : wr.cell? ⟨w.heap.size, 0, none⟩ = some (.int .i64 (r : Int)) := (G4.behind hW).cell (i := 0) rfl
        have c01 : wr.cell? ⟨w.heap.size, 1, none⟩ = some (.int .i64 (c : Int)) := (G4.behind hW).cell (i := 1) rfl
        go_upto_region 10 with (fail)
        go_cut [50] from 33 to 50 (fun u wx => u = .bool (outM (r : Int) (c : Int) i j) ∧ wx = wr)
        case first =>
          by_cases k1 : i < 0
          · go_wp2_with fail
            go_meet
            case rel => exact ⟨by simp [outM, k1], rfl⟩
          · by_cases k2 : (r : Int) ≤ i
            · go_wp2_with fail
              go_meet
              case rel => exact ⟨by simp [outM, k1, k2], rfl⟩
            · by_cases k3 : j < 0
              · go_wp2_with fail
                go_meet
                case rel => exact ⟨by simp [outM, k1, k2, k3], rfl⟩
              · by_cases k4 : (c : Int) ≤ j
                · go_wp2_with fail
                  go_meet
                  case rel => exact ⟨by simp [outM, k1, k2, k3, k4], rfl⟩
                · go_wp2_with fail
                  go_meet
                  case rel => exact ⟨by simp [outM, k1, k2, k3, k4], rfl⟩
        case rest =>
          obtain ⟨rfl, hW'⟩ := hcut
          cases hW'
          have e3 := E3.out
          have hpl := HPL.out
          generalize outM (r : Int) (c : Int) i j = om at *
          have E4 := Lib.hid e3
          have HP2 := Lib.hid hpl
          clear e3 hpl E3 HPL
          go_upto_if 50 with (fail)
          go_cut [11, 12] from 51 to 60 (fun x y wx => x = .int .u64 (A1 : Int) ∧ y = .int .i64 A2 ∧ wx = wr)
          case first =>
            cases om
            · have e3 := E4.out
              rw [if_neg Bool.false_ne_true] at e3
              simp only [Prod.mk.injEq] at e3
              obtain ⟨e31, rfl⟩ := e3
              obtain ⟨p1, p2, p3, p4, p5, p6, p7⟩ := HP2.out rfl
              have kA := (hW.cell (p := ⟨S1, o1 + (i * c + j).toNat, none⟩) q1).trans (HR1.out _ p5)
              rw [← e31, p7] at kA
              rw [p7] at p5
              obtain ⟨i', rfl⟩ : ∃ i' : Nat, i = i' := ⟨i.toNat, by omega⟩
              obtain ⟨j', rfl⟩ : ∃ j' : Nat, j = j' := ⟨j.toNat, by omega⟩
              simp only [Int.toNat_natCast] at kA p5 p6
              clear e31 p7 p1 p3 E4 HP2
              generalize i' * c = P1 at *
              have z1 : (P1 : Int) + (j' : Int) < (k : Int) := by omega
              have z3 : (P1 : Int) ≤ 4096 := by omega
              have z6 : (j' : Int) ≤ 64 := by omega
              go_wp2_with fail
              go_meet
              case rel => exact ⟨rfl, rfl, rfl⟩
            · have e3 := E4.out
              rw [if_pos rfl] at e3
              simp only [Prod.mk.injEq] at e3
              obtain ⟨rfl, rfl⟩ := e3
              go_wp2_with fail
              go_meet
              case rel => exact ⟨rfl, rfl, rfl⟩
          case rest =>
            obtain ⟨rfl, rfl, hW'⟩ := hcut
            cases hW'
            obtain rfl := hz.out
            go_wp2_with fail
            refine (HAt.out _ hW).mono ?_
            rintro e w2 ⟨rfl, b3⟩
            replace hW := below_both hW b3
            clear b3 c00 c01 c02 HMy HAt E4 HP2
            go_upto_region 14 with (fail)
            have g00 : w2.cell? ⟨w.heap.size, 0, none⟩ = some (.int .i64 (r : Int)) := (G4.behind hW).cell (i := 0) rfl
            have g01 : w2.cell? ⟨w.heap.size, 1, none⟩ = some (.int .i64 (c : Int)) := (G4.behind hW).cell (i := 1) rfl
            have g02 : w2.cell? ⟨w.heap.size, 2, none⟩ = some (.slice (some ⟨S1, o1, none⟩) k cap) := (G4.behind hW).cell (i := 2) rfl
            have k00 : w2.cell? ⟨w.heap.size + 1, 0, none⟩ = some (.int .i64 R') := (G5.behind hW).cell (i := 0) rfl
            have k01 : w2.cell? ⟨w.heap.size + 1, 1, none⟩ = some (.int .i64 C') := (G5.behind hW).cell (i := 1) rfl
            have k02 : w2.cell? ⟨w.heap.size + 1, 2, none⟩ = some (.slice b m' bap) := (G5.behind hW).cell (i := 2) rfl
            have Br : Below W0.heap.size W0 w2 := hW
            go_region_held3 (fun w' => w'.cell? ⟨w.heap.size, 0, none⟩ = some (.int .i64 (r : Int)) ∧ w'.cell? ⟨w.heap.size, 1, none⟩ = some (.int .i64 (c : Int)) ∧ w'.cell? ⟨w.heap.size, 2, none⟩ = some (.slice (some ⟨S1, o1, none⟩) k cap) ∧ w'.cell? ⟨w.heap.size + 1, 0, none⟩ = some (.int .i64 R') ∧ w'.cell? ⟨w.heap.size + 1, 1, none⟩ = some (.int .i64 C') ∧ w'.cell? ⟨w.heap.size + 1, 2, none⟩ = some (.slice b m' bap))
              (first | with_reducible exact ⟨(G4.behind Br).cell rfl, (G4.behind Br).cell rfl, (G4.behind Br).cell rfl, (G5.behind Br).cell rfl, (G5.behind Br).cell rfl, (G5.behind Br).cell rfl⟩ | exact ⟨(G4.behind Br).cell rfl, (G4.behind Br).cell rfl, (G4.behind Br).cell rfl, (G5.behind Br).cell rfl, (G5.behind Br).cell rfl, (G5.behind Br).cell rfl⟩ | exact ⟨(G4.behind Br.drew).cell rfl, (G4.behind Br.drew).cell rfl, (G4.behind Br.drew).cell rfl, (G5.behind Br.drew).cell rfl, (G5.behind Br.drew).cell rfl, (G5.behind Br.drew).cell rfl⟩ | (refine ⟨?_, ?_, ?_, ?_, ?_, ?_⟩ <;> go_keep))
              (first
                | (go_at_call 18; refine (HCk.out _ (by first | exact Br | exact Br.drew)).mono ?_; rintro e v4 ⟨rfl, bz⟩; replace Br : Below W0.heap.size W0 v4 := (by first | exact below_both Br bz | exact below_both Br.drew bz); clear bz)
                | (go_at_call 19; refine (HFi.out _ (by first | exact Br | exact Br.drew)).mono ?_; rintro e v4 ⟨rfl, bz⟩; replace Br : Below W0.heap.size W0 v4 := (by first | exact below_both Br bz | exact below_both Br.drew bz); clear bz)
                | (go_at_call 20; refine (HSa.out _ (by first | exact Br | exact Br.drew)).mono ?_; rintro e v4 ⟨rfl, bz⟩; replace Br : Below W0.heap.size W0 v4 := (by first | exact below_both Br bz | exact below_both Br.drew bz); clear bz)
                | (go_at_call 21; refine (HSl.out _ (by first | exact Br | exact Br.drew)).mono ?_; rintro e v4 ⟨rfl, bz⟩; replace Br : Below W0.heap.size W0 v4 := (by first | exact below_both Br bz | exact below_both Br.drew bz); clear bz)
                | (go_at_call 22; refine (halive _).mono ?_; rintro e v4 ⟨rfl, bz⟩; replace Br : Below W0.heap.size W0 v4 := (by first | exact below_both Br bz | exact below_both Br.drew bz); clear bz))
            go_wp2
            go_ret
            exact ⟨rfl, below_both bb Br⟩
  · have hm' : mayM R C m = false := by simpa using hm
    have e1 : chkM R C m = 11 := by unfold chkM; rw [hm']; rfl
    have e2 : finM R C m xs = 11 := by unfold finM; rw [hm']; rfl
    have e3 : atM R C m xs i j = (0, 11) := by unfold atM; rw [hm']; rfl
    rw [e1] at HCk
    rw [e2] at HFi
    rw [e3] at HAt
    rw [hm'] at HMy
    clear e1 e2 e3 hm hm' h1 h2 h3 h4 hA hB hl hn hn'
    dsimp only at HAt
    go_enter Try.func3, Try.ntmps3
    have c00 := G4.cell (i := 0) rfl
    have c01 := G4.cell (i := 1) rfl
    have c02 := G4.cell (i := 2) rfl
    rw [hW0] at c00 c01 c02
    go_wp2_with fail
    rw [← hW0]
    clear hW0 c00 c01 c02
    refine (HMy.out _ (Below.refl _ _)).mono ?_
    rintro e w1 ⟨rfl, b1⟩
    have c00 := (G4.behind b1).cell (i := 0) rfl
    have c01 := (G4.behind b1).cell (i := 1) rfl
    have c02 := (G4.behind b1).cell (i := 2) rfl
    go_wp2_with fail
    refine (HAt.out _ b1).mono ?_
    rintro e w2 ⟨rfl, b3⟩
    replace b1 := below_both b1 b3
    clear b3 c00 c01 c02 HMy HAt
    go_upto_region 14 with (fail)
    have g00 : w2.cell? ⟨w.heap.size, 0, none⟩ = some (.int .i64 R) := (G4.behind b1).cell (i := 0) rfl
    have g01 : w2.cell? ⟨w.heap.size, 1, none⟩ = some (.int .i64 C) := (G4.behind b1).cell (i := 1) rfl
    have g02 : w2.cell? ⟨w.heap.size, 2, none⟩ = some (.slice a m cap) := (G4.behind b1).cell (i := 2) rfl
    have k00 : w2.cell? ⟨w.heap.size + 1, 0, none⟩ = some (.int .i64 R') := (G5.behind b1).cell (i := 0) rfl
    have k01 : w2.cell? ⟨w.heap.size + 1, 1, none⟩ = some (.int .i64 C') := (G5.behind b1).cell (i := 1) rfl
    have k02 : w2.cell? ⟨w.heap.size + 1, 2, none⟩ = some (.slice b m' bap) := (G5.behind b1).cell (i := 2) rfl
    have Br : Below W0.heap.size W0 w2 := b1
    go_region_held3 (fun w' => w'.cell? ⟨w.heap.size, 0, none⟩ = some (.int .i64 R) ∧ w'.cell? ⟨w.heap.size, 1, none⟩ = some (.int .i64 C) ∧ w'.cell? ⟨w.heap.size, 2, none⟩ = some (.slice a m cap) ∧ w'.cell? ⟨w.heap.size + 1, 0, none⟩ = some (.int .i64 R') ∧ w'.cell? ⟨w.heap.size + 1, 1, none⟩ = some (.int .i64 C') ∧ w'.cell? ⟨w.heap.size + 1, 2, none⟩ = some (.slice b m' bap))
      (first | with_reducible exact ⟨(G4.behind Br).cell rfl, (G4.behind Br).cell rfl, (G4.behind Br).cell rfl, (G5.behind Br).cell rfl, (G5.behind Br).cell rfl, (G5.behind Br).cell rfl⟩ | exact ⟨(G4.behind Br).cell rfl, (G4.behind Br).cell rfl, (G4.behind Br).cell rfl, (G5.behind Br).cell rfl, (G5.behind Br).cell rfl, (G5.behind Br).cell rfl⟩ | exact ⟨(G4.behind Br.drew).cell rfl, (G4.behind Br.drew).cell rfl, (G4.behind Br.drew).cell rfl, (G5.behind Br.drew).cell rfl, (G5.behind Br.drew).cell rfl, (G5.behind Br.drew).cell rfl⟩ | (refine ⟨?_, ?_, ?_, ?_, ?_, ?_⟩ <;> go_keep))
      (first
        | (go_at_call 18; refine (HCk.out _ (by first | exact Br | exact Br.drew)).mono ?_; rintro e v4 ⟨rfl, bz⟩; replace Br : Below W0.heap.size W0 v4 := (by first | exact below_both Br bz | exact below_both Br.drew bz); clear bz)
        | (go_at_call 19; refine (HFi.out _ (by first | exact Br | exact Br.drew)).mono ?_; rintro e v4 ⟨rfl, bz⟩; replace Br : Below W0.heap.size W0 v4 := (by first | exact below_both Br bz | exact below_both Br.drew bz); clear bz)
        | (go_at_call 20; refine (HSa.out _ (by first | exact Br | exact Br.drew)).mono ?_; rintro e v4 ⟨rfl, bz⟩; replace Br : Below W0.heap.size W0 v4 := (by first | exact below_both Br bz | exact below_both Br.drew bz); clear bz)
        | (go_at_call 21; refine (HSl.out _ (by first | exact Br | exact Br.drew)).mono ?_; rintro e v4 ⟨rfl, bz⟩; replace Br : Below W0.heap.size W0 v4 := (by first | exact below_both Br bz | exact below_both Br.drew bz); clear bz)
        | (go_at_call 22; refine (halive _).mono ?_; rintro e v4 ⟨rfl, bz⟩; replace Br : Below W0.heap.size W0 v4 := (by first | exact below_both Br bz | exact below_both Br.drew bz); clear bz))
    go_wp2
    go_ret
    exact ⟨rfl, below_both bb Br⟩
end Go.Proofs.Ytaefalmabphadaa
