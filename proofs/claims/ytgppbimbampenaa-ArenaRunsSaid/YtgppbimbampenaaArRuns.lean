/- The law ArenaRuns, walked. -/
import Derived.Test.YtgppbimbampenaaArApartL
import Derived.Test.YtgppbimbampenaaArMore
import Derived.Test.YtgppbimbampenaaArOpen
import Derived.Deep.CutRange
namespace Go.Proofs.Ytgppbimbampenaa
open Go.RowKit Go.Shelf
theorem ar_wordsS {b g s n u h : Nat} {ws : List Nat} {W : World} (A : AN b W g s n u h ws) : Calls Try.prog 37 #[.pointer (some ⟨g, 0, none⟩)] W fun e W' => ∃ a cap, e = .returned (.slice a n cap) ∧ OwnK .u64 57 W.heap.size W' (.slice a n cap) (zn ws) ∧ Below W.heap.size W W' := by
  refine (ar_words A).mono ?_
  rintro e W' ⟨v, rfl, ho, hb⟩
  have hl : (zn ws).length = n := by rw [zn_length]; exact A.len
  rcases ho.2 with ⟨h1, h2⟩ | ⟨g', cap', cur, e, _⟩
  · subst h1
    have : n = 0 := by omega
    subst this
    exact ⟨none, 0, rfl, ho, hb⟩
  · rw [hl] at e
    subst e
    exact ⟨_, cap', rfl, ho, hb⟩
theorem tmod_in (z : Int) {b : Int} (hb : 0 < b) : -b < z.tmod b ∧ z.tmod b < b := ⟨Int.lt_tmod_of_pos z hb, Int.tmod_lt_of_pos z hb⟩
theorem two_mods (z b : Int) (hb : 0 < b) : ∃ q k : Int, z.tmod b = q ∧ (q + b).tmod b = k ∧ -b < q ∧ q < b ∧ 0 ≤ k ∧ k < b := by
  obtain ⟨h1, h2⟩ := tmod_in z hb
  exact ⟨_, _, rfl, rfl, h1, h2, Int.tmod_nonneg b (by omega), (tmod_in _ hb).2⟩
set_option maxRecDepth 100000 in
set_option maxHeartbeats 8000000 in
theorem arenaRuns_calls {z : Int} {v : Value} {os : List (Int × Int × Int)} {w : World} (hO : OpsIn w v os) (hz : -9223372036854775808 ≤ z ∧ z < 9223372036854775808) :
    Calls Try.prog 8 #[.int .i64 z, v] w fun e W' => e = .returned (.bool true) ∧ Below w.heap.size w W' := by
  have hal := l18_alive (w := w)
  obtain ⟨a, cap, rfl, hcs⟩ := hO
  have HC := Lib.hid hcs
  generalize hm : os.length = m at *
  have HM := Lib.hid hm
  clear hcs hm
  obtain ⟨q, k, e1, e2, q1, q2, k1, k2⟩ := two_mods z 200 (by decide)
  obtain ⟨N, hN⟩ : ∃ N : Nat, max (k - 1) 0 = N := ⟨(max (k - 1) 0).toNat, by omega⟩
  have hN2 : N ≤ 198 := by omega
  have hmx : ∀ (w : World) (ts : Array TypeId) (t : TypeId), (Builtin.max_ ts t #[.int .i64 (k - 1), .int .i64 0]).run Try.prog w = .ok (.int .i64 (N : Int)) w := fun w ts t => by rw [max_twoM, hN]
  have hnw := fun w => ar_newM (w := w) hN (by omega)
  clear hN
  go_enter Try.func8, Try.ntmps8
  go_wp2_with fail
  refine hal.mono ?_
  rintro e w1 ⟨rfl, b1⟩
  go_wp2_with fail
  refine (hnw _).mono ?_
  rintro e w2 ⟨g, s, rfl, A, b2⟩
  have bw : w.heap.size ≤ w1.heap.size := b1.size
  have T2 := below_both b1 b2
  have C2 : Hid (0 < m → ∃ S off, a = some ⟨S, off, none⟩ ∧ S < w.heap.size ∧ ∀ W, Below w.heap.size w W → ∀ j, j < m →
    W.cell? ⟨S, off + j * 3, none⟩ = some (.int .i64 (opAt os j).1) ∧ W.cell? ⟨S, off + j * 3 + 1, none⟩ = some (.int .i64 (opAt os j).2.1) ∧ W.cell? ⟨S, off + j * 3 + 2, none⟩ = some (.int .i64 (opAt os j).2.2)) := Lib.hid (fun h => by
      obtain ⟨S, off, e, hS, hc⟩ := HC.out h
      refine ⟨S, off, e, hS, fun W hW j hj => ?_⟩
      obtain ⟨c1, c2, c3⟩ := hc j hj
      exact ⟨(hW.cell (p := ⟨S, off + j * 3, none⟩) hS).trans c1, (hW.cell (p := ⟨S, off + j * 3 + 1, none⟩) hS).trans c2, (hW.cell (p := ⟨S, off + j * 3 + 2, none⟩) hS).trans c3⟩)
  clear hnw b1 b2 HC
  go_wp2_with fail
  generalize w1.heap.size = b0 at *
  clear e1 e2 hmx
  go_loopw [6, 7, 8] (fun x y i wr => ∃ (t u h : Nat) (vs : List Nat), t ≤ 30 ∧ i = .int .i64 t ∧ x = .int .i64 u ∧ y = .int .i64 h ∧ u ≤ h ∧ AN b0 wr g s N u h vs ∧ Below w.heap.size w wr) (fun _ _ i _ => 30 - (intOf i).toNat)
  case atStart => exact ⟨0, 0, 0, _, Nat.zero_le _, rfl, rfl, rfl, Nat.le_refl _, A, T2⟩
  case round =>
    obtain ⟨t, u, h, vs, ht, rfl, rfl, rfl, hu, hA, hB⟩ := hrel
    by_cases hlt : t < m ∧ t < 30
    · obtain ⟨hl1, hl2⟩ := hlt
      obtain ⟨S, off, rfl, hS, hcell⟩ := C2.out (by omega)
      obtain ⟨c1, c2, c3⟩ := hcell wr hB t hl1
      generalize (opAt os t).1 = K at *
      generalize (opAt os t).2.1 = X at *
      generalize (opAt os t).2.2 = Y at *
      obtain ⟨p, d, r1, r2, p1, p2, d1, d2⟩ := two_mods K 3 (by decide)
      obtain ⟨B3, G3⟩ := mbox wr #[.int .i64 K, .int .i64 X, .int .i64 Y] 53 _ rfl
      have x0 := G3.cell (i := 0) rfl
      have x1 := G3.cell (i := 1) rfl
      have x2 := G3.cell (i := 2) rfl
      clear hcell C2
      go_upto_region 11 with (fail)
      have hA3 := hA.behind B3
      have T3 := below_both hB B3
      have hbw : wr.heap.size ≠ g := fun e => by have := (Array.getElem?_eq_some_iff.1 hA.box).1; omega
      have hbs : wr.heap.size ≠ s := fun e => by have := hA.row.lt; omega
      have HBW := Lib.hid hbw
      have HBS := Lib.hid hbs
      have HU := Lib.hid hu
      clear hA hB c1 c2 c3 B3 hbw hbs hu
      generalize wr.alloc (.cells #[.int .i64 K, .int .i64 X, .int .i64 Y] 53) = W3 at *
      generalize wr.heap.size = gp at *
      go_cut [46] from 42 to 46 (fun v wx => v = .int .i64 d ∧ wx = W3)
      case first =>
        go_wp2
        go_meet
        exact ⟨rfl, rfl⟩
      obtain ⟨rfl, hw3⟩ := hcut
      cases hw3
      clear r1 r2 p1 p2 x0 x1 x2
      apply_assumption
      go_cut [6, 10, 11, 12, 13, 14, 15, 16] from 28 to 216 (fun u6 _ _ _ _ _ _ _ wx => ∃ (u' : Nat) (vs' : List Nat), u6 = .int .i64 u' ∧ AN b0 wx g s N u' (max h u') vs' ∧ Below w.heap.size w wx)
      case first =>
        have x0 := G3.cell (i := 0) rfl
        have x1 := G3.cell (i := 1) rfl
        have x2 := G3.cell (i := 2) rfl
        have hd : d = 0 ∨ d = 1 ∨ d = 2 := by omega
        clear d1 d2 hl1 hl2 ht hS k1 k2 q1 q2 T2 hal hz
        rcases hd with rfl | rfl | rfl
        · by_cases sd : (0 ≤ X ∧ X ≤ 64) ∧ (0 ≤ Y ∧ Y ≤ 64)
          · obtain ⟨⟨s1, s2⟩, s3, s4⟩ := sd
            obtain ⟨r, rfl⟩ : ∃ r : Nat, X = r := ⟨X.toNat, by omega⟩
            obtain ⟨c, rfl⟩ : ∃ c : Nat, Y = c := ⟨Y.toNat, by omega⟩
            have hr : r ≤ 64 := by omega
            have hc : c ≤ 64 := by omega
            obtain ⟨P, hP⟩ : ∃ P, r * c = P := ⟨_, rfl⟩
            have hP4 : P ≤ 4096 := by rw [← hP]; exact Nat.le_trans (Nat.mul_le_mul hr hc) (by decide)
            have e1 : IntKind.i64.wrap ((r : Int) * (c : Int)) = (P : Int) := by rw [← Int.natCast_mul, hP]; exact IntWalk.i64_in _ (by omega)
            have HP := Lib.hid hP
            have hun := hA3.un
            clear hP
            by_cases fit : u + P ≤ N
            · as_aux_lemma =>
                have hT := ar_takeZ hA3 (R := (r : Int)) (C := (c : Int)) (U := (u : Int)) (P := P) rfl rfl rfl hr hc HP.out fit rfl rfl
                have hvl := hA3.len
                go_wp2_with fail
                refine hT.mono ?_
                rintro e w4 ⟨rfl, A4, K4, D4⟩
                have G4 := K4.ms G3 HBW.out HBS.out
                have T4 := T3.trans (D4.mono bw)
                obtain ⟨B5, V5⟩ := mbox w4 #[.int .i64 (r : Int), .int .i64 (c : Int), .int .i64 (c : Int), .int .i64 (u : Int)] 23 _ rfl
                have A5 := A4.behind B5
                have G5 := G4.behind B5
                have T5 := below_both T4 B5
                have hLd := ar_lendZ A5 (r := r) (c := c) (o := u) (O := (u : Int)) (P := P) rfl hr hc HP.out (Nat.le_refl _)
                have hls := fun l => clrL_at (ws := vs) (o := u) (P := P) (j := l) (by omega)
                have HLS := Lib.hid hls
                clear hT K4 D4 A4 G4 T4 G3 hA3 T3 B5 x0 x1 x2 hls hvl
                generalize hC : clrL vs u P = ls0 at *
                generalize hH : max h (u + P) = H at *
                have HH := Lib.hid hH
                clear hH hC
                have y0 := G5.cell (i := 0) rfl
                have y1 := G5.cell (i := 1) rfl
                have y2 := G5.cell (i := 2) rfl
                have z0 := V5.cell (i := 0) rfl
                have z1 := V5.cell (i := 1) rfl
                have z2 := V5.cell (i := 2) rfl
                have z3 := V5.cell (i := 3) rfl
                go_wp2_with fail
                generalize w4.alloc (.cells #[.int .i64 (r : Int), .int .i64 (c : Int), .int .i64 (c : Int), .int .i64 (u : Int)] 23) = W5 at *
                generalize w4.heap.size = gq at *
                refine hLd.mono ?_
                rintro e w6 ⟨rfl, b6⟩
                replace A5 := A5.behind b6
                replace G5 := G5.behind b6
                replace V5 := V5.behind b6
                replace T5 := below_both T5 b6
                clear hLd y0 y1 y2 z0 z1 z2 z3 b6
                have y0 := G5.cell (i := 0) rfl
                have y1 := G5.cell (i := 1) rfl
                have y2 := G5.cell (i := 2) rfl
                have z0 := V5.cell (i := 0) rfl
                have z1 := V5.cell (i := 1) rfl
                have z2 := V5.cell (i := 2) rfl
                have z3 := V5.cell (i := 3) rfl
                obtain ⟨oq, hoq⟩ : ∃ oq, oq = if P = 0 then 0 else u := ⟨_, rfl⟩
                rw [show lentS s u P = .slice (some ⟨s, oq, none⟩) P P by unfold lentS; rw [hoq]]
                have HOQ : Hid (0 < P → oq = u) := Lib.hid (fun h => by rw [hoq, if_neg (by omega)])
                clear hoq
                go_wp2_with fail
                go_loopw [13] (fun i wr => ∃ (j : Nat) (ls : List Nat), j ≤ P ∧ i = .int .i64 j ∧ AN b0 wr g s N (u + P) H ls ∧ Ms wr gp #[.int .i64 K, .int .i64 (r : Int), .int .i64 (c : Int)] 53 ∧ Hid (∀ l, j ≤ l → l < P → lim ls (oq + l) = 0) ∧ Below w.heap.size w wr) (fun i _ => P - (intOf i).toNat)
                case atStart =>
                  refine ⟨0, _, Nat.zero_le _, rfl, A5, G5, Lib.hid (fun l _ hl => ?_), T5⟩
                  rw [HOQ.out (by omega), HLS.out, if_pos (by omega)]
                case round =>
                  obtain ⟨j, ls, hj, rfl, hA, hG, HZ, hB⟩ := hrel
                  clear A5 G5 V5 T5 y0 y1 y2 z0 z1 z2 z3
                  have y1 := hG.cell (i := 1) rfl
                  have y2 := hG.cell (i := 2) rfl
                  by_cases hlt : j < P
                  · have ho := HOQ.out (by omega)
                    have hci := hA.row.cell (j := oq + j) (by rw [hA.len]; omega)
                    have hfi := hA.row.f (oq + j)
                    rw [HZ.out j (Nat.le_refl _) hlt] at hci
                    have HO := Lib.hid ho
                    clear ho
                    go_wp2
                    go_roundw
                    case rel =>
                      refine ⟨j + 1, ls.set (oq + j) (j + 1), by omega, by simp, hA.word (j + 1), hG.put HBS.out _, Lib.hid (fun l h1 h2 => ?_), hB.setCell (Nat.le_trans bw hA.bs) _⟩
                      rw [lim_set, if_neg (fun q => by have := q.1; omega)]
                      exact HZ.out l (by omega) h2
                    case measure => simp [intOf]; omega
                  · obtain rfl : P = j := by omega
                    go_wp2
                    go_meet
                    exact ⟨u + P, ls, rfl, by rw [HH.out]; exact hA, hB⟩
            · as_aux_lemma =>
                have hT := ar_take_full hA3 hr hc HP.out fit
                go_wp2_with fail
                refine hT.mono ?_
                rintro e w4 ⟨rfl, b4⟩
                obtain ⟨B5, V5⟩ := mbox w4 #[.int .i64 0, .int .i64 0, .int .i64 0, .int .i64 0] 23 _ rfl
                have A5 := (hA3.behind b4).behind B5
                have G5 := (G3.behind b4).behind B5
                have T5 := below_both (below_both T3 b4) B5
                have y0 := G5.cell (i := 0) rfl
                have y1 := G5.cell (i := 1) rfl
                have y2 := G5.cell (i := 2) rfl
                have q1 : ¬ (P : Int) ≤ (N : Int) - u := by omega
                clear hT hA3 G3 T3 B5 V5 b4 x0 x1 x2
                go_wp2
                go_meet
                exact ⟨u, vs, rfl, by rw [Nat.max_eq_left HU.out]; exact A5, T5⟩
          · as_aux_lemma =>
              have hT := ar_take_shape hA3 sd
              have SD := Lib.hid sd
              clear sd
              go_wp2_with fail
              refine hT.mono ?_
              rintro e w4 ⟨rfl, b4⟩
              obtain ⟨B5, V5⟩ := mbox w4 #[.int .i64 0, .int .i64 0, .int .i64 0, .int .i64 0] 23 _ rfl
              have A5 := (hA3.behind b4).behind B5
              have G5 := (G3.behind b4).behind B5
              have T5 := below_both (below_both T3 b4) B5
              have y0 := G5.cell (i := 0) rfl
              have y1 := G5.cell (i := 1) rfl
              have y2 := G5.cell (i := 2) rfl
              clear hT hA3 G3 T3 B5 V5 b4 x0 x1 x2
              by_cases s1 : X < 0
              · go_wp2
                go_meet
                exact ⟨u, vs, rfl, by rw [Nat.max_eq_left HU.out]; exact A5, T5⟩
              · by_cases s2 : 64 < X
                · go_wp2
                  go_meet
                  exact ⟨u, vs, rfl, by rw [Nat.max_eq_left HU.out]; exact A5, T5⟩
                · by_cases s3 : Y < 0
                  · go_wp2
                    go_meet
                    exact ⟨u, vs, rfl, by rw [Nat.max_eq_left HU.out]; exact A5, T5⟩
                  · have s4 : 64 < Y := by
                      have := SD.out
                      omega
                    go_wp2
                    go_meet
                    exact ⟨u, vs, rfl, by rw [Nat.max_eq_left HU.out]; exact A5, T5⟩
        · as_aux_lemma =>
            by_cases hx : 0 ≤ X ∧ X ≤ u
            · obtain ⟨m', rfl⟩ : ∃ m' : Nat, X = m' := ⟨X.toNat, by omega⟩
              have hmu : m' ≤ u := by omega
              have hR := ar_release hA3 hmu
              have hmh : Hid (max h m' = h) := Lib.hid (Nat.max_eq_left (by have := HU.out; omega))
              clear hx
              go_wp2_with fail
              refine hR.mono ?_
              rintro e w4 ⟨rfl, A4, K4, D4⟩
              have G4 := K4.ms G3 HBW.out HBS.out
              have T4 := T3.trans (D4.mono bw)
              have y1 := G4.cell (i := 1) rfl
              clear hR hA3 K4 D4 G3 T3 x0 x1 x2
              go_wp2
              go_meet
              exact ⟨m', vs, rfl, by rw [hmh.out]; exact A4, T4⟩
            · have hR := ar_release_no hA3 hx
              have HX := Lib.hid hx
              clear hx
              go_wp2_with fail
              refine hR.mono ?_
              rintro e w4 ⟨rfl, b4⟩
              have A4 := hA3.behind b4
              have G4 := G3.behind b4
              have T4 := below_both T3 b4
              have y1 := G4.cell (i := 1) rfl
              clear hR hA3 G3 T3 b4 x0 x1 x2
              by_cases s1 : X < 0
              · go_wp2
                go_meet
                exact ⟨u, vs, rfl, by rw [Nat.max_eq_left HU.out]; exact A4, T4⟩
              · have s2 : (u : Int) < X := by
                  have := HX.out
                  omega
                go_wp2
                go_meet
                exact ⟨u, vs, rfl, by rw [Nat.max_eq_left HU.out]; exact A4, T4⟩
        · as_aux_lemma =>
            have hW := ar_wordsS hA3
            have hg3 : g < W3.heap.size := (Array.getElem?_eq_some_iff.1 hA3.box).1
            have hs3 : s < W3.heap.size := hA3.row.lt
            have hw3 : w.heap.size ≤ W3.heap.size := T3.size
            have hvl := hA3.len
            go_wp2_with fail
            refine hW.mono ?_
            rintro e w4 ⟨aw, cw, rfl, hO, b4⟩
            have A4 := hA3.behind b4
            have T4 := below_both T3 b4
            have HG3 := Lib.hid hg3
            have HS3 := Lib.hid hs3
            have HW3 := Lib.hid hw3
            clear hW hA3 G3 T3 b4 x0 x1 x2 hg3 hs3 hw3
            have hzl : (zn vs).length = N := by rw [zn_length, hvl]
            generalize zn vs = zs0 at *
            have HZL := Lib.hid hzl
            clear hzl hvl
            go_wp2_with fail
            go_loopw [16] (fun i wr => ∃ (j : Nat) (zs : List Int), j ≤ N ∧ i = .int .i64 j ∧ OwnK .u64 57 W3.heap.size wr (.slice aw N cw) zs ∧ Hid (zs.length = N) ∧ AN b0 wr g s N u h vs ∧ Below w.heap.size w wr) (fun i _ => N - (intOf i).toNat)
            case atStart => exact ⟨0, _, Nat.zero_le _, rfl, hO, HZL, A4, T4⟩
            case round =>
              obtain ⟨j, zs, hj, rfl, hO, HZ, hA, hB⟩ := hrel
              clear A4 T4
              by_cases hlt : j < N
              · obtain ⟨gw, cap', e, hgw, _⟩ := hO.form (by rw [HZ.out]; omega)
                simp only [Value.slice.injEq] at e
                obtain ⟨rfl, -, rfl⟩ := e
                have HGW := Lib.hid hgw
                clear hgw
                have hci := hO.cell (j := j) (by rw [HZ.out]; exact hlt)
                have hfi := hO.frozen j
                go_wp2
                go_roundw
                case rel => exact ⟨j + 1, zs.set j 77, by omega, by simp, hO.set j 77, Lib.hid (by rw [List.length_set]; exact HZ.out), hA.put (by have := HGW.out; have := HG3.out; show g ≠ gw; omega) (by have := HGW.out; have := HS3.out; show s ≠ gw; omega) _, hB.setCell (Nat.le_trans HW3.out HGW.out) _⟩
                case measure => simp [intOf]; omega
              · obtain rfl : N = j := by omega
                go_wp2
                go_meet
                exact ⟨u, vs, rfl, by rw [Nat.max_eq_left HU.out]; exact hA, hB⟩
      obtain ⟨u', vs', rfl, hA, hB⟩ := hcut
      as_aux_lemma =>
        obtain ⟨M, hM⟩ : ∃ M, M = max h u' := ⟨_, rfl⟩
        have hmx : ∀ (w : World) (ts : Array TypeId) (t : TypeId), (Builtin.max_ ts t #[.int .i64 (h : Int), .int .i64 (u' : Int)]).run Try.prog w = .ok (.int .i64 (M : Int)) w := fun w ts t => by
          rw [max_twoM, show max (h : Int) (u' : Int) = M by omega]
        rw [← hM] at hA
        have HUM : Hid (u' ≤ M) := Lib.hid (by omega)
        clear hM
        have a1 := ar_mark hA
        have a2 := ar_high hA
        have a3 := ar_left hA
        have hun := hA.un
        go_wp2_with fail
        refine a1.mono ?_
        rintro e v1 ⟨rfl, rfl⟩
        go_wp2_with fail
        refine a2.mono ?_
        rintro e v1 ⟨rfl, rfl⟩
        go_wp2_with fail
        refine a3.mono ?_
        rintro e v1 ⟨rfl, y1⟩
        have hA2 := hA.behind y1
        have a4 := ar_wordsS hA2
        have hB2 := below_both hB y1
        clear hA a1 a2 a3 hB y1
        go_wp2_with fail
        refine a4.mono ?_
        rintro e v2 ⟨aw, cw, rfl, _, y2⟩
        have hA3 := hA2.behind y2
        have hB3 := below_both hB2 y2
        clear hA2 hB2 a4 y2
        go_wp2
        go_roundw
        case rel => exact ⟨t + 1, u', M, vs', by omega, by simp, rfl, rfl, HUM.out, hA3, hB3⟩
        case measure => simp [intOf]; omega
    · clear C2
      by_cases h1 : t < m
      · have h2 : ¬ t < 30 := fun q => hlt ⟨h1, q⟩
        go_wp2
        go_ret
        exact ⟨rfl, hB⟩
      · go_wp2
        go_ret
        exact ⟨rfl, hB⟩
end Go.Proofs.Ytgppbimbampenaa
