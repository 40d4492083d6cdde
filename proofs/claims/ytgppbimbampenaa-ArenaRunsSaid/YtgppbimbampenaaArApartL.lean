/- The law ArenaApart, walked. -/
import Derived.Test.YtgppbimbampenaaArApart
import Derived.Test.YtgppbimbampenaaPeTells
namespace Go.Proofs.Ytgppbimbampenaa
open Go.RowKit Go.Shelf
theorem small_mul {m n P : Nat} (hm : m ≤ 5) (hn : n ≤ 5) (hP : m * n = P) : P ≤ 25 := by rw [← hP]; exact Nat.mul_le_mul hm hn
theorem wrap_nat (z : Int) : ∃ y : Nat, IntKind.u64.wrap z = (y : Int) := by
  refine ⟨(IntKind.u64.wrap z).toNat, ?_⟩
  have : 0 ≤ IntKind.u64.wrap z := by rw [IntKind.wrap_u64]; omega
  omega
theorem ar_lendZ {b g s n u h : Nat} {ws : List Nat} {W : World} (A : AN b W g s n u h ws) {r c o P : Nat} {O : Int} (hO : O = (o : Int)) (hr : r ≤ 64) (hc : c ≤ 64) (hP : r * c = P) (ho : o + P ≤ u) :
    Calls Try.prog 35 #[.pointer (some ⟨g, 0, none⟩), .agg #[.int .i64 (r : Int), .int .i64 (c : Int), .int .i64 (c : Int), .int .i64 O]] W fun e W' => e = .returned (lentS s o P) ∧ Below W.heap.size W W' := by
  subst hO
  exact ar_lend_yes A hr hc hP ho
theorem ar_wordsZ {b g s n u h : Nat} {ws : List Nat} {W : World} (A : AN b W g s n u h ws) (h0 : 0 < n) : Calls Try.prog 37 #[.pointer (some ⟨g, 0, none⟩)] W fun e W' => ∃ gw cap, e = .returned (.slice (some ⟨gw, 0, none⟩) n cap) ∧ (∀ j, j < n → W'.cell? ⟨gw, j, none⟩ = some (.int .u64 ((lim ws j : Nat) : Int))) ∧ Below W.heap.size W W' := by
  refine (ar_words A).mono ?_
  rintro e W' ⟨v, rfl, ho, hb⟩
  have hl : (zn ws).length = n := by rw [zn_length]; exact A.len
  obtain ⟨gw, cap, rfl, _, _⟩ := ho.form (by omega)
  rw [hl] at ho ⊢
  refine ⟨gw, cap, rfl, fun j hj => ?_, hb⟩
  rw [ho.cell (by omega)]
  congr 2
  unfold zat zn lim
  rw [List.getElem?_map]
  cases ws[j]? <;> rfl
set_option maxRecDepth 100000 in
set_option maxHeartbeats 8000000 in
theorem arenaApart_calls {a b c x : Nat} {w : World} (hpos : 0 < w.heap.size) (ha : a < 256) (hb : b < 256) (hc : c < 256) (hx : x < 18446744073709551616) :
    Calls Try.prog 9 #[.int .u8 (a : Int), .int .u8 (b : Int), .int .u8 (c : Int), .int .u64 (x : Int)] w fun e W' => e = .returned (.bool true) ∧ Below w.heap.size w W' := by
  have hal := l18_alive (w := w)
  obtain ⟨m, hm⟩ : ∃ m : Nat, (a : Int) % 6 = m := ⟨a % 6, by omega⟩
  obtain ⟨n, hn⟩ : ∃ n : Nat, (b : Int) % 6 = n := ⟨b % 6, by omega⟩
  obtain ⟨k, hk⟩ : ∃ k : Nat, (c : Int) % 6 = k := ⟨c % 6, by omega⟩
  have hm5 : m ≤ 5 := by omega
  have hn5 : n ≤ 5 := by omega
  have hk5 : k ≤ 5 := by omega
  obtain ⟨P, hP⟩ : ∃ P, m * n = P := ⟨_, rfl⟩
  obtain ⟨Q, hQ⟩ : ∃ Q, n * k = Q := ⟨_, rfl⟩
  have hP25 := small_mul hm5 hn5 hP
  have hQ25 := small_mul hn5 hk5 hQ
  have e1 : IntKind.i64.wrap ((m : Int) * (n : Int)) = (P : Int) := by rw [← Int.natCast_mul, hP]; exact IntWalk.i64_in _ (by omega)
  have e2 : IntKind.i64.wrap ((n : Int) * (k : Int)) = (Q : Int) := by rw [← Int.natCast_mul, hQ]; exact IntWalk.i64_in _ (by omega)
  obtain ⟨y, hy⟩ := wrap_nat ((x : Int) + 1)
  have HP := Lib.hid hP
  have HQ := Lib.hid hQ
  have hap := Lib.hid (ap_places (k := k) hP)
  clear hP hQ
  go_enter Try.func9, Try.ntmps9
  go_wp2_with fail
  refine hal.mono ?_
  rintro e w1 ⟨rfl, b1⟩
  go_wp2_with fail
  refine (ar_new (n := 200) rfl (by decide)).mono ?_
  rintro e w2 ⟨g, s, rfl, A, b2⟩
  have hT := ar_takeZ A (R := (m : Int)) (C := (n : Int)) (U := 0) (P := P) rfl rfl rfl (by omega) (by omega) HP.out (by omega) (Nat.zero_add P).symm rfl
  go_wp2_with fail
  refine hT.mono ?_
  rintro e w3 ⟨rfl, A3, K3, D3⟩
  clear hT A
  have bw : w.heap.size ≤ w1.heap.size := b1.size
  have T3 : Below w.heap.size w w3 := (below_both b1 b2).trans (D3.mono bw)
  generalize hU3 : max 0 (0 + P) = u3 at *
  generalize hL3 : clrL (List.replicate 200 0) 0 P = L3 at *
  obtain ⟨B4, G4⟩ := mbox w3 #[.int .i64 (m : Int), .int .i64 (n : Int), .int .i64 (n : Int), .int .i64 0] 23 _ rfl
  have A4 := A3.behind B4
  have hT := ar_takeZ A4 (R := (n : Int)) (C := (k : Int)) (U := (P : Int)) (P := Q) rfl rfl rfl (by omega) (by omega) HQ.out (by omega) rfl rfl
  have n1 : w3.heap.size ≠ g := fun e => by have := (Array.getElem?_eq_some_iff.1 A3.box).1; omega
  have n2 : w3.heap.size ≠ s := fun e => by have := A3.row.lt; omega
  have N1 := Lib.hid n1
  have N2 := Lib.hid n2
  have T4 := below_both T3 B4
  clear n1 n2 b1 b2 K3 D3 hU3 hL3 T3
  go_wp2_with fail
  refine hT.mono ?_
  rintro e w5 ⟨rfl, A5, K5, D5⟩
  have G5 := K5.ms G4 N1.out N2.out
  have T5 := T4.trans (D5.mono bw)
  have w35 : w3.heap.size < w5.heap.size := (Array.getElem?_eq_some_iff.1 G5).1
  generalize hU5 : max u3 (P + Q) = u5 at *
  generalize hL5 : clrL L3 P Q = L5 at *
  generalize hU6 : P + Q = u6 at *
  have HU6 := Lib.hid hU6
  have hs5 := Lib.hid A5.row.lt
  clear hT A4 A3 K5 D5 G4 T4 hU5 hL5 hU6 B4
  obtain ⟨B6, G6⟩ := mbox w5 #[.int .i64 (n : Int), .int .i64 (k : Int), .int .i64 (k : Int), .int .i64 (P : Int)] 23 _ rfl
  have A6 := A5.behind B6
  have G7 := G5.behind B6
  have T6 := below_both T5 B6
  have hpo : 0 < (w5.alloc (.cells #[.int .i64 (n : Int), .int .i64 (k : Int), .int .i64 (k : Int), .int .i64 (P : Int)] 23)).heap.size := by rw [World.size_alloc]; omega
  have hA := view_apart (R := (m : Int)) (C := (n : Int)) (S := (n : Int)) (O := 0) (R' := (n : Int)) (C' := (k : Int)) (S' := (k : Int)) (O' := (P : Int)) hpo
  rw [hap.out] at hA
  have x0 := G7.cell (i := 0) rfl
  have x1 := G7.cell (i := 1) rfl
  have x2 := G7.cell (i := 2) rfl
  have x3 := G7.cell (i := 3) rfl
  have y0 := G6.cell (i := 0) rfl
  have y1 := G6.cell (i := 1) rfl
  have y2 := G6.cell (i := 2) rfl
  have y3 := G6.cell (i := 3) rfl
  clear A5 G5 T5 B6 hpo
  go_wp2_with fail
  generalize w5.alloc (.cells #[.int .i64 (n : Int), .int .i64 (k : Int), .int .i64 (k : Int), .int .i64 (P : Int)] 23) = W6 at *
  refine hA.mono ?_
  rintro e w7 ⟨rfl, b7⟩
  have n3 : w5.heap.size ≠ s := fun e => by have := hs5.out; omega
  have N3 := Lib.hid n3
  clear n3
  generalize w3.heap.size = gp at *
  generalize w5.heap.size = gq at *
  replace A6 := A6.behind b7
  replace G7 := G7.behind b7
  replace G6 := G6.behind b7
  replace T6 := below_both T6 b7
  clear hA x0 x1 x2 x3 y0 y1 y2 y3 b7
  go_wp2_with fail
  have HK : Hid (∀ w', Below w7.heap.size w7 w' → w'.cell? ⟨gp, 0, none⟩ = some (.int .i64 (m : Int)) ∧ w'.cell? ⟨gp, 1, none⟩ = some (.int .i64 (n : Int)) ∧ w'.cell? ⟨gp, 2, none⟩ = some (.int .i64 (n : Int)) ∧ w'.cell? ⟨gp, 3, none⟩ = some (.int .i64 0) ∧ w'.cell? ⟨gq, 0, none⟩ = some (.int .i64 (n : Int)) ∧ w'.cell? ⟨gq, 1, none⟩ = some (.int .i64 (k : Int)) ∧ w'.cell? ⟨gq, 2, none⟩ = some (.int .i64 (k : Int)) ∧ w'.cell? ⟨gq, 3, none⟩ = some (.int .i64 (P : Int))) := Lib.hid (fun w' h => ⟨(G7.behind h).cell (i := 0) rfl, (G7.behind h).cell (i := 1) rfl, (G7.behind h).cell (i := 2) rfl, (G7.behind h).cell (i := 3) rfl, (G6.behind h).cell (i := 0) rfl, (G6.behind h).cell (i := 1) rfl, (G6.behind h).cell (i := 2) rfl, (G6.behind h).cell (i := 3) rfl⟩)
  have HL1 := Lib.hid (fun w' (h : Below w7.heap.size w7 w') => ar_lendZ (A6.behind h) (r := m) (c := n) (o := 0) (O := 0) (P := P) rfl (by omega) (by omega) HP.out (by have := HU6.out; omega))
  have HL2 := Lib.hid (fun w' (h : Below w7.heap.size w7 w') => ar_lendZ (A6.behind h) (r := n) (c := k) (o := P) (O := (P : Int)) (P := Q) rfl (by omega) (by omega) HQ.out (by have := HU6.out; omega))
  have Br : Below w7.heap.size w7 w7 := Below.refl _ _
  go_region_held3 (fun w' => w'.cell? ⟨gp, 0, none⟩ = some (.int .i64 (m : Int)) ∧ w'.cell? ⟨gp, 1, none⟩ = some (.int .i64 (n : Int)) ∧ w'.cell? ⟨gp, 2, none⟩ = some (.int .i64 (n : Int)) ∧ w'.cell? ⟨gp, 3, none⟩ = some (.int .i64 0) ∧ w'.cell? ⟨gq, 0, none⟩ = some (.int .i64 (n : Int)) ∧ w'.cell? ⟨gq, 1, none⟩ = some (.int .i64 (k : Int)) ∧ w'.cell? ⟨gq, 2, none⟩ = some (.int .i64 (k : Int)) ∧ w'.cell? ⟨gq, 3, none⟩ = some (.int .i64 (P : Int)))
    (first | with_reducible exact HK.out _ Br | with_reducible exact HK.out _ Br.drew | (refine ⟨?_, ?_, ?_, ?_, ?_, ?_, ?_, ?_⟩ <;> go_keep))
    (first
      | (go_at_call 35; (first | (with_reducible refine (HL1.out _ Br).mono ?_) | (with_reducible refine (HL1.out _ Br.drew).mono ?_) | (with_reducible refine (HL2.out _ Br).mono ?_) | (with_reducible refine (HL2.out _ Br.drew).mono ?_)); rintro e v4 ⟨rfl, bz⟩; replace Br : Below w7.heap.size w7 v4 := (by first | with_reducible exact below_both Br bz | with_reducible exact below_both Br.drew bz); clear bz))
  rename_i hHeld
  clear hHeld
  have A8 := A6.behind Br
  have P8 := G7.behind Br
  have Q8 := G6.behind Br
  have T8 := below_both T6 Br
  have hws : w.heap.size ≤ s := Nat.le_trans bw A6.bs
  clear HK HL1 HL2 A6 G7 G6 T6 Br
  rw [show lentS s 0 P = .slice (some ⟨s, 0, none⟩) P P by unfold lentS; rw [ite_self]]
  obtain ⟨oq, hoq⟩ : ∃ oq, oq = if Q = 0 then 0 else P := ⟨_, rfl⟩
  rw [show lentS s P Q = .slice (some ⟨s, oq, none⟩) Q Q by unfold lentS; rw [hoq]]
  have HOQ : Hid (0 < Q → oq = P) := Lib.hid (fun h => by rw [hoq, if_neg (by omega)])
  have hoq25 : oq ≤ 25 := by rw [hoq]; split <;> omega
  clear hoq
  generalize w1.heap.size = b0 at *
  go_wp2_with fail
  go_loopw [19] (fun i wr => ∃ (t : Nat) (vs : List Nat), t ≤ P ∧ i = .int .i64 t ∧ AN b0 wr g s 200 u6 u5 vs ∧ Ms wr gp #[.int .i64 (m : Int), .int .i64 (n : Int), .int .i64 (n : Int), .int .i64 0] 23 ∧ Ms wr gq #[.int .i64 (n : Int), .int .i64 (k : Int), .int .i64 (k : Int), .int .i64 (P : Int)] 23 ∧ Hid (∀ j, j < t → lim vs j = x) ∧ Below w.heap.size w wr) (fun i _ => P - (intOf i).toNat)
  case atStart => exact ⟨0, _, Nat.zero_le _, rfl, A8, P8, Q8, Lib.hid (fun j h => absurd h (Nat.not_lt_zero j)), T8⟩
  case round =>
    obtain ⟨t, vs, ht, rfl, hA, hGP, hGQ, HX, hB⟩ := hrel
    by_cases hlt : t < P
    · have hci := hA.row.cell (j := t) (by rw [hA.len]; omega)
      have hfi := hA.row.f t
      go_wp2
      go_roundw
      case rel =>
        refine ⟨t + 1, vs.set t x, by omega, by simp, hA.word x, hGP.put N2.out _, hGQ.put N3.out _, Lib.hid (fun j hj => ?_), hB.setCell hws _⟩
        rw [lim_set]
        have hl := hA.len
        by_cases e : j = t
        · rw [if_pos ⟨e, by omega⟩]
        · rw [if_neg (fun q => e q.1)]; exact HX.out j (by omega)
      case measure => simp [intOf]; omega
    · obtain rfl : P = t := by omega
      clear A8 P8 Q8 T8
      go_wp2_with fail
      go_loopw [20] (fun i wr => ∃ (t : Nat) (vs : List Nat), t ≤ Q ∧ i = .int .i64 t ∧ AN b0 wr g s 200 u6 u5 vs ∧ Ms wr gp #[.int .i64 (m : Int), .int .i64 (n : Int), .int .i64 (n : Int), .int .i64 0] 23 ∧ Ms wr gq #[.int .i64 (n : Int), .int .i64 (k : Int), .int .i64 (k : Int), .int .i64 (P : Int)] 23 ∧ Hid (∀ j, j < P → lim vs j = x) ∧ Hid (∀ j, j < t → lim vs (oq + j) = y) ∧ Below w.heap.size w wr) (fun i _ => Q - (intOf i).toNat)
      case atStart => exact ⟨0, _, Nat.zero_le _, rfl, hA, hGP, hGQ, HX, Lib.hid (fun j h => absurd h (Nat.not_lt_zero j)), hB⟩
      case round =>
        clear hA hGP hGQ HX hB
        obtain ⟨t, vs, ht, rfl, hA, hGP, hGQ, HX, HY, hB⟩ := hrel
        by_cases hlt : t < Q
        · have hci := hA.row.cell (j := oq + t) (by rw [hA.len]; omega)
          have hfi := hA.row.f (oq + t)
          go_wp2
          go_roundw
          case rel =>
            have hl := hA.len
            have ho := HOQ.out (by omega)
            refine ⟨t + 1, vs.set (oq + t) y, by omega, by simp, hA.word y, hGP.put N2.out _, hGQ.put N3.out _, Lib.hid (fun j hj => ?_), Lib.hid (fun j hj => ?_), hB.setCell hws _⟩
            · rw [lim_set, if_neg (fun q => by have := q.1; omega)]
              exact HX.out j hj
            · rw [lim_set]
              by_cases e : j = t
              · rw [if_pos ⟨by omega, by omega⟩]
              · rw [if_neg (fun q => by have := q.1; omega)]; exact HY.out j (by omega)
          case measure => simp [intOf]; omega
        · obtain rfl : Q = t := by omega
          go_wp2_with fail
          go_loopw [21] (fun i wz => ∃ t : Nat, t ≤ P ∧ i = .int .i64 t ∧ wz = wr) (fun i _ => P - (intOf i).toNat)
          case atStart => exact ⟨0, Nat.zero_le _, rfl, rfl⟩
          case round =>
            obtain ⟨t, ht, rfl, rfl⟩ := hrel
            by_cases hlt : t < P
            · have hci := hA.row.cell (j := t) (by rw [hA.len]; omega)
              rw [HX.out t hlt] at hci
              go_wp2
              go_roundw
              case rel => exact ⟨t + 1, by omega, by simp, trivial⟩
              case measure => simp [intOf]; omega
            · obtain rfl : P = t := by omega
              have hW := ar_wordsZ hA (by decide)
              go_wp2_with fail
              refine hW.mono ?_
              rintro e wx ⟨gw, cap, rfl, hcw, bx⟩
              have cp := (hGP.behind bx).cell (i := 3) rfl
              have cq := (hGQ.behind bx).cell (i := 3) rfl
              have hBx := below_both hB bx
              have HCW := Lib.hid hcw
              clear hW hcw hA hGP hGQ hB
              have hcx : Hid (0 < P → wx.cell? ⟨gw, 0, none⟩ = some (.int .u64 (x : Int))) := Lib.hid (fun h => by rw [HCW.out 0 (by decide), HX.out 0 h])
              have hcy : Hid (0 < Q → wx.cell? ⟨gw, P, none⟩ = some (.int .u64 (y : Int))) := Lib.hid (fun h => by
                have e := HY.out 0 h
                rw [HOQ.out h, Nat.add_zero] at e
                rw [HCW.out P (by omega), e])
              clear HCW
              by_cases p0 : P = 0
              · by_cases q0 : Q = 0
                · go_wp2
                  go_ret
                  exact ⟨rfl, hBx⟩
                · have cy := hcy.out (by omega)
                  rw [p0] at cy cq e1
                  rw [show (((0 : Nat) : Int)) = 0 from rfl] at e1
                  go_wp2
                  go_ret
                  exact ⟨rfl, hBx⟩
              · have cx := hcx.out (by omega)
                by_cases q0 : Q = 0
                · go_wp2
                  go_ret
                  exact ⟨rfl, hBx⟩
                · have cy := hcy.out (by omega)
                  go_wp2
                  go_ret
                  exact ⟨rfl, hBx⟩
end Go.Proofs.Ytgppbimbampenaa
