/- The law ArenaLends, walked. -/
import Derived.Test.YtgppbimbampenaaArApart
import Derived.Deep.CutRange
import Derived.Deep.RegionHeld3
namespace Go.Proofs.Ytgppbimbampenaa
open Go.RowKit Go.Shelf
theorem lend_any {b g s n u h : Nat} {ws : List Nat} {W : World} (A : AN b W g s n u h ws) (R C S O : Int) : ∃ lv, (Calls Try.prog 35 #[.pointer (some ⟨g, 0, none⟩), .agg #[.int .i64 R, .int .i64 C, .int .i64 S, .int .i64 O]] W fun e W' => e = .returned lv ∧ Below W.heap.size W W') ∧
    (lendB u R C S O = true → ∃ (P : Nat) (a : Option Addr), lv = .slice a P P ∧ IntKind.i64.wrap (R * C) = (P : Int) ∧ P ≤ 4096 ∧ 0 ≤ R ∧ R ≤ 64 ∧ 0 ≤ C ∧ C ≤ 64 ∧ S = C ∧ 0 ≤ O ∧ (P : Int) ≤ u - O) ∧ (lendB u R C S O = false → lv = .slice none 0 0) := by
  cases hb : lendB u R C S O
  · exact ⟨_, ar_lend_no A hb, fun h => (by cases h), fun _ => rfl⟩
  · obtain ⟨⟨k1, k2⟩, ⟨k3, k4⟩, k5, k6, k7⟩ : (0 ≤ R ∧ R ≤ 64) ∧ (0 ≤ C ∧ C ≤ 64) ∧ S = C ∧ 0 ≤ O ∧ O ≤ u - R * C := of_decide_eq_true hb
    subst k5
    obtain ⟨r, rfl⟩ : ∃ r : Nat, R = r := ⟨R.toNat, by omega⟩
    obtain ⟨c, rfl⟩ : ∃ c : Nat, S = c := ⟨S.toNat, by omega⟩
    obtain ⟨o, rfl⟩ : ∃ o : Nat, O = o := ⟨O.toNat, by omega⟩
    have hP4 : r * c ≤ 4096 := Nat.le_trans (Nat.mul_le_mul (show r ≤ 64 by omega) (show c ≤ 64 by omega)) (by decide)
    rw [← Int.natCast_mul] at k7 ⊢
    exact ⟨lentS s o (r * c), ar_lend_yes A (by omega) (by omega) rfl (by omega), fun _ => ⟨r * c, _, rfl, IntWalk.i64_in _ (by omega), hP4, k1, k2, k3, k4, rfl, k6, by omega⟩, fun h => (by cases h)⟩
set_option maxRecDepth 100000 in
set_option maxHeartbeats 8000000 in
theorem arenaLends_calls {R C S O n : Int} {w : World} : Calls Try.prog 10 #[.agg #[.int .i64 R, .int .i64 C, .int .i64 S, .int .i64 O], .int .i64 n] w fun e W' => e = .returned (.bool true) ∧ Below w.heap.size w W' := by
  obtain ⟨B, G⟩ := mbox w #[.int .i64 R, .int .i64 C, .int .i64 S, .int .i64 O] 23 _ rfl
  have hal := fun w => l18_alive (w := w)
  have hwW : w.heap.size < (w.alloc (.cells #[.int .i64 R, .int .i64 C, .int .i64 S, .int .i64 O] 23)).heap.size := by rw [World.size_alloc]; omega
  go_enter Try.func10, Try.ntmps10
  go_wp2_with fail
  generalize w.alloc (.cells #[.int .i64 R, .int .i64 C, .int .i64 S, .int .i64 O] 23) = W0 at *
  refine (hal _).mono ?_
  rintro e w1 ⟨rfl, b1⟩
  go_wp2_with fail
  refine (ar_new (n := 50) rfl (by decide)).mono ?_
  rintro e w2 ⟨g, s, rfl, A, b2⟩
  have hT := ar_takeZ A (R := 4) (C := 5) (U := 0) (r := 4) (c := 5) (P := 20) (H := 20) (u' := 20) rfl rfl rfl (by decide) (by decide) rfl (by decide) rfl rfl
  have G2 := (G.behind b1).behind b2
  go_wp2_with fail
  refine hT.mono ?_
  rintro e w3 ⟨rfl, A3, K3, D3⟩
  have s1 : W0.heap.size ≤ w1.heap.size := b1.size
  have G3 := K3.ms G2 (by have := A.bg; omega) (by have := A.bs; omega)
  have T3 : Below w.heap.size w w3 := (below_both (below_both B b1) b2).trans (D3.mono (by omega))
  clear hT A hal B b1 b2 G G2 K3 D3
  obtain ⟨lv, hlv, hyes, hno⟩ := lend_any A3 R C S O
  have HY := Lib.hid hyes
  have HN := Lib.hid hno
  have hu : ((20 : Nat) : Int) = 20 := rfl
  rw [hu] at HY HN
  generalize hok : lendB 20 R C S O = ok at *
  have HOK := Lib.hid hok
  have x0 := G3.cell (i := 0) rfl
  have x1 := G3.cell (i := 1) rfl
  have x2 := G3.cell (i := 2) rfl
  have x3 := G3.cell (i := 3) rfl
  clear hyes hno hok hu
  go_wp2_with fail
  refine hlv.mono ?_
  rintro e w4 ⟨rfl, b4⟩
  have G4 := G3.behind b4
  have T4 := below_both T3 b4
  clear x0 x1 x2 x3 hlv A3 G3 T3 b4
  have x0 := G4.cell (i := 0) rfl
  have x1 := G4.cell (i := 1) rfl
  have x2 := G4.cell (i := 2) rfl
  have x3 := G4.cell (i := 3) rfl
  go_upto_region 6 with (fail)
  go_cut [7] from 21 to 66 (fun u wx => u = .bool ok ∧ wx = w4)
  case first =>
    cases ok
    · have hf : ¬ ((0 ≤ R ∧ R ≤ 64) ∧ (0 ≤ C ∧ C ≤ 64) ∧ S = C ∧ 0 ≤ O ∧ O ≤ 20 - R * C) := of_decide_eq_false HOK.out
      have HF := Lib.hid hf
      clear hf HY HN
      by_cases k1 : 0 ≤ R
      · by_cases k2 : R ≤ 64
        · by_cases k3 : 0 ≤ C
          · by_cases k4 : C ≤ 64
            · by_cases k5 : S = C
              · subst k5
                by_cases k6 : 0 ≤ O
                · by_cases k7 : O ≤ 20
                  · obtain ⟨P, hP⟩ : ∃ P, IntKind.i64.wrap (R * S) = P := ⟨_, rfl⟩
                    have k8 : ¬ P ≤ 20 - O := fun h => HF.out ⟨⟨k1, k2⟩, ⟨k3, k4⟩, rfl, k6, by
                      have q := wmul_in k1 k2 k3 (show S ≤ 1048576 by omega)
                      rw [IntWalk.i64_in _ (by omega)] at hP
                      omega⟩
                    go_wp2
                    go_meet
                    exact ⟨rfl, rfl⟩
                  · go_wp2
                    go_meet
                    exact ⟨rfl, rfl⟩
                · go_wp2
                  go_meet
                  exact ⟨rfl, rfl⟩
              · go_wp2
                go_meet
                exact ⟨rfl, rfl⟩
            · go_wp2
              go_meet
              exact ⟨rfl, rfl⟩
          · go_wp2
            go_meet
            exact ⟨rfl, rfl⟩
        · go_wp2
          go_meet
          exact ⟨rfl, rfl⟩
      · go_wp2
        go_meet
        exact ⟨rfl, rfl⟩
    · obtain ⟨P, a, hv, e1, hP, k1, k2, k3, k4, k5, k6, k7⟩ := HY.out rfl
      subst k5
      clear hv HY HN HOK
      have k8 : O ≤ 20 := by omega
      go_wp2
      go_meet
      exact ⟨rfl, rfl⟩
  obtain ⟨rfl, hw4⟩ := hcut
  cases hw4
  clear HOK
  go_upto_region 7 with (fail)
  go_cut [86] from 67 to 86 (fun u wx => u = .bool false ∧ wx = w4)
  case first =>
    cases ok
    · obtain rfl := HN.out rfl
      clear HY HN
      go_wp2
      go_meet
      exact ⟨rfl, rfl⟩
    · obtain ⟨P, a, rfl, e1, hP, k1, k2, k3, k4, k5, k6, k7⟩ := HY.out rfl
      clear k5 k6 k7 HY HN
      go_wp2
      go_meet
      exact ⟨rfl, rfl⟩
  obtain ⟨rfl, hw4⟩ := hcut
  cases hw4
  clear HY HN
  obtain ⟨B5, GZ⟩ := mbox w4 #[.bool false, .slice none 0 0, .int .i64 0, .int .i64 0] 64 _ rfl
  obtain ⟨B6, GL⟩ := mbox (w4.alloc (.cells #[.bool false, .slice none 0 0, .int .i64 0, .int .i64 0] 64)) #[.pointer none, .pointer (some ⟨w4.heap.size, 0, none⟩)] 50 _ rfl
  rw [World.size_alloc] at GL
  have G6 := (G4.behind B5).behind B6
  have T6 := below_both (below_both T4 B5) B6
  have Z6 := GZ.behind B6
  have hsz : w.heap.size ≤ w4.heap.size := T4.size
  clear G4 T4 B5 B6 GZ x0 x1 x2 x3
  go_wp2_with fail
  generalize (w4.alloc (.cells #[.bool false, .slice none 0 0, .int .i64 0, .int .i64 0] 64)).alloc (.cells #[.pointer none, .pointer (some ⟨w4.heap.size, 0, none⟩)] 50) = W6 at *
  generalize w4.heap.size = z at *
  have HP : Hid (∀ t, t < 2 → ∃ p, (∀ W', Below W6.heap.size W6 W' → W'.cell? ⟨z + 1, t, none⟩ = some p) ∧ ∀ W', Below W6.heap.size W6 W' → Calls Try.prog 68 #[p] W' fun e W'' => e = .returned (.bool false) ∧ W' = W'') := Lib.hid (fun t ht => by
    rcases Nat.lt_or_ge t 1 with e | e
    · obtain rfl : t = 0 := by omega
      exact ⟨.pointer none, fun W' h => (GL.behind h).cell (i := 0) rfl, fun W' _ => ar_nil⟩
    · obtain rfl : t = 1 := by omega
      exact ⟨.pointer (some ⟨z, 0, none⟩), fun W' h => (GL.behind h).cell (i := 1) rfl, fun W' h => ar_made ((Z6.behind h).cell (i := 0) rfl)⟩)
  have hw6 : w.heap.size < W6.heap.size := (Array.getElem?_eq_some_iff.1 G6).1
  clear GL Z6
  go_loopw [10] (fun i wr => ∃ t : Nat, t ≤ 2 ∧ i = .int .i64 t ∧ Below W6.heap.size W6 wr) (fun i _ => 2 - (intOf i).toNat)
  case atStart => exact ⟨0, Nat.zero_le _, rfl, Below.refl _ _⟩
  case round =>
    obtain ⟨t, ht, rfl, hB⟩ := hrel
    by_cases hlt : t < 2
    · obtain ⟨p, hpc, hpm⟩ := HP.out t hlt
      have HPC := Lib.hid hpc
      have HPM := Lib.hid hpm
      have c0 := hpc wr hB
      have hTk := un_take (p := p) (W := wr) (R := 1) (C := 1) (fun W' h => hpm W' (below_both hB h))
      clear hpc hpm HP
      go_wp2_with fail
      refine hTk.mono ?_
      rintro e w8 ⟨rfl, b8⟩
      have B8 := below_both hB b8
      obtain ⟨B9, GV⟩ := mbox w8 #[.int .i64 0, .int .i64 0, .int .i64 0, .int .i64 0] 23 _ rfl
      have T9 := below_both B8 B9
      clear hTk B8 B9 GV b8 hB c0
      go_wp2_with fail
      generalize w8.alloc (.cells #[.int .i64 0, .int .i64 0, .int .i64 0, .int .i64 0] 23) = W9 at *
      have HK : Hid (∀ w', Below W6.heap.size W6 w' → w'.cell? ⟨z + 1, t, none⟩ = some p ∧ w'.cell? ⟨w.heap.size, 0, none⟩ = some (.int .i64 R) ∧ w'.cell? ⟨w.heap.size, 1, none⟩ = some (.int .i64 C) ∧ w'.cell? ⟨w.heap.size, 2, none⟩ = some (.int .i64 S) ∧ w'.cell? ⟨w.heap.size, 3, none⟩ = some (.int .i64 O)) := Lib.hid (fun w' h => ⟨HPC.out w' h, (G6.behind h).cell (i := 0) rfl, (G6.behind h).cell (i := 1) rfl, (G6.behind h).cell (i := 2) rfl, (G6.behind h).cell (i := 3) rfl⟩)
      have Br := T9
      clear T9
      go_region_held3 (fun w' => w'.cell? ⟨z + 1, t, none⟩ = some p ∧ w'.cell? ⟨w.heap.size, 0, none⟩ = some (.int .i64 R) ∧ w'.cell? ⟨w.heap.size, 1, none⟩ = some (.int .i64 C) ∧ w'.cell? ⟨w.heap.size, 2, none⟩ = some (.int .i64 S) ∧ w'.cell? ⟨w.heap.size, 3, none⟩ = some (.int .i64 O))
        (first | with_reducible exact HK.out _ Br | with_reducible exact HK.out _ Br.drew | (refine ⟨?_, ?_, ?_, ?_, ?_⟩ <;> go_keep))
        (first
          | (go_at_call 36; (first | (with_reducible refine (un_release (HPM.out _ Br)).mono ?_) | (with_reducible refine (un_release (HPM.out _ Br.drew)).mono ?_)); rintro e v4 ⟨rfl, rfl⟩)
          | (go_at_call 38; (first | (with_reducible refine (un_mark (HPM.out _ Br)).mono ?_) | (with_reducible refine (un_mark (HPM.out _ Br.drew)).mono ?_)); rintro e v4 ⟨rfl, rfl⟩)
          | (go_at_call 39; (first | (with_reducible refine (un_high (HPM.out _ Br)).mono ?_) | (with_reducible refine (un_high (HPM.out _ Br.drew)).mono ?_)); rintro e v4 ⟨rfl, rfl⟩)
          | (go_at_call 40; (first | (with_reducible refine (un_left (HPM.out _ Br)).mono ?_) | (with_reducible refine (un_left (HPM.out _ Br.drew)).mono ?_)); rintro e v4 ⟨rfl, rfl⟩)
          | (go_at_call 37; (first | (with_reducible refine (un_words (HPM.out _ Br)).mono ?_) | (with_reducible refine (un_words (HPM.out _ Br.drew)).mono ?_)); rintro e v4 ⟨rfl, rfl⟩)
          | (go_at_call 35; (first | (with_reducible refine (un_lend (fun W' h => HPM.out _ (below_both Br h))).mono ?_) | (with_reducible refine (un_lend (fun W' h => HPM.out _ (below_both Br.drew h))).mono ?_)); rintro e v4 ⟨rfl, bz⟩; replace Br : Below W6.heap.size W6 v4 := (by first | with_reducible exact below_both Br bz | with_reducible exact below_both Br.drew bz); clear bz))
      go_wp2
      go_roundw
      case rel => exact ⟨t + 1, by omega, by simp, Br⟩
      case measure => simp [intOf]; omega
    · obtain rfl : t = 2 := by omega
      go_wp2
      go_ret
      exact ⟨rfl, below_both T6 hB⟩
end Go.Proofs.Ytgppbimbampenaa
