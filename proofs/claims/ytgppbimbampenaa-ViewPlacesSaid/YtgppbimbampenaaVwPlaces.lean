/- The law ViewPlaces, walked. -/
import Derived.Test.YtgppbimbampenaaVwApart
import Derived.Test.YtgppbimbampenaaVwLaw
import Derived.BigRegion
namespace Go.Proofs.Ytgppbimbampenaa
open Go.RowKit Go.Shelf Go.Maps
theorem plZ_sums {R S O : Int} {c k : Nat} (hk : k < (plZ R c S O).length) : 0 < c ∧ ∃ (q Q Q2 : Int), IntKind.i64.wrap ((k : Int) / (c : Int)) = q ∧ IntKind.i64.wrap (q * S) = Q ∧ IntKind.i64.wrap (O + Q) = Q2 ∧ IntKind.i64.wrap (Q2 + (k : Int) % (c : Int)) = zat (plZ R c S O) k := by
  have hin := plZ_in hk
  have h : mayW R c S O 1048576 = true := by
    cases h : mayW R c S O 1048576
    · unfold plZ at hk; rw [h] at hk; simp at hk
    · rfl
  have hb := mayW_iff.1 h
  have hk' := hk
  unfold plZ at hk
  rw [h] at hk
  simp only [if_true] at hk
  rw [preZ_length, Int.toNat_natCast] at hk
  have hc : 0 < c := by
    rcases Nat.eq_zero_or_pos c with e | e
    · rw [e] at hk; simp at hk
    · exact e
  have e : zat (plZ R c S O) k = plv S O (k / c) (k % c) := by
    unfold plZ
    rw [h, if_pos rfl, Int.toNat_natCast, preZ_at _ hk]
  have h1 : k / c < R.toNat := by rwa [Nat.div_lt_iff_lt_mul hc]
  have hq : IntKind.i64.wrap ((k : Int) / (c : Int)) = ((k / c : Nat) : Int) := by
    have h9 := Nat.div_le_self k c
    have h8 := plZ_small R c S O
    rw [← Int.natCast_ediv]
    generalize k / c = y at *
    exact IntWalk.i64_in _ (by omega)
  refine ⟨hc, _, _, _, hq, rfl, rfl, ?_⟩
  rw [e] at hin ⊢
  have d1 : (k : Int) / (c : Int) = ((k / c : Nat) : Int) := by rw [Int.natCast_ediv]
  have d2 : (k : Int) % (c : Int) = ((k % c : Nat) : Int) := by rw [Int.natCast_emod]
  have n2 : 0 ≤ ((k / c : Nat) : Int) * S := Int.mul_nonneg (Int.natCast_nonneg _) (by omega)
  have hm := Nat.mod_lt k hc
  rw [d2]
  unfold plv at hin ⊢
  obtain ⟨X, hX⟩ : ∃ X, X = ((k / c : Nat) : Int) * S := ⟨_, rfl⟩
  obtain ⟨Y, hY⟩ : ∃ Y, Y = ((k % c : Nat) : Int) := ⟨_, rfl⟩
  have hY0 : 0 ≤ Y := by omega
  rw [← hX] at n2 hin ⊢
  rw [← hY] at hin ⊢
  clear hX hY d1 d2 e
  rw [IntWalk.i64_in X (by omega), IntWalk.i64_in (O + X) (by omega), IntWalk.i64_in _ (by omega)]
set_option maxRecDepth 100000 in
set_option maxHeartbeats 8000000 in
theorem viewPlaces_calls {R C S O R' C' S' O' : Int} {w : World} (hpos : 0 < w.heap.size) :
    Calls Try.prog 3 #[.agg #[.int .i64 R, .int .i64 C, .int .i64 S, .int .i64 O], .agg #[.int .i64 R', .int .i64 C', .int .i64 S', .int .i64 O']] w fun e W' => e = .returned (.bool true) ∧ Below w.heap.size w W' := by
  obtain ⟨B, G1, G2, hw0⟩ := vbox2 w #[.int .i64 R, .int .i64 C, .int .i64 S, .int .i64 O] #[.int .i64 R', .int .i64 C', .int .i64 S', .int .i64 O'] 23 23 _ rfl
  have hal := fun w => vwalive w
  have P1 := Lib.hid (fun w => view_Places (R := R) (C := C) (S := S) (O := O) (w := w))
  have P2 := Lib.hid (fun w => view_Places (R := R') (C := C') (S := S') (O := O') (w := w))
  have PA := Lib.hid (fun (w : World) h => view_apart (R := R) (C := C) (S := S) (O := O) (R' := R') (C' := C') (S' := S') (O' := O') (w := w) h)
  have PM := Lib.hid (fun w => may15 (R := R) (C := C) (S := S) (O := O) (words := 1048576) (w := w) (by decide) (by decide))
  have N1 := Lib.hid (plZ_small R C S O)
  have N2 := Lib.hid (plZ_small R' C' S' O')
  have HL : Hid ((mayW R C S O 1048576 = true → (1 ≤ R ∨ R = 0) ∧ IntKind.i64.wrap (R * C) = ((plZ R C S O).length : Int)) ∧ (mayW R C S O 1048576 = false → (plZ R C S O).length = 0)) := Lib.hid (by
    constructor
    · intro h
      have hb := mayW_iff.1 h
      obtain ⟨r, rfl⟩ : ∃ r : Nat, R = r := ⟨R.toNat, by omega⟩
      obtain ⟨c, rfl⟩ : ∃ c : Nat, C = c := ⟨C.toNat, by omega⟩
      refine ⟨by omega, ?_⟩
      unfold plZ
      rw [h, if_pos rfl, preZ_length, Int.toNat_natCast, Int.toNat_natCast, ← Int.natCast_mul]
      have := Nat.mul_le_mul (show r ≤ 64 by omega) (show c ≤ 64 by omega)
      exact IntWalk.i64_in _ (by omega)
    · intro h
      unfold plZ
      rw [h]; rfl)
  have HS : Hid (∀ k, k < (plZ R C S O).length → ∃ c : Nat, C = c ∧ 0 < c ∧ ∃ (q Q Q2 : Int), IntKind.i64.wrap ((k : Int) / (c : Int)) = q ∧ IntKind.i64.wrap (q * S) = Q ∧ IntKind.i64.wrap (O + Q) = Q2 ∧ IntKind.i64.wrap (Q2 + (k : Int) % (c : Int)) = zat (plZ R C S O) k) := Lib.hid (fun k hk => by
    have h : mayW R C S O 1048576 = true := by
      cases h : mayW R C S O 1048576
      · unfold plZ at hk; rw [h] at hk; simp at hk
      · rfl
    have hb := mayW_iff.1 h
    obtain ⟨c, rfl⟩ : ∃ c : Nat, C = c := ⟨C.toNat, by omega⟩
    obtain ⟨a, b⟩ := plZ_sums hk
    exact ⟨c, rfl, a, b⟩)
  generalize plZ R C S O = ps at *
  generalize plZ R' C' S' O' = qs at *
  have HY := Lib.hid (@apB_iff ps qs)
  generalize apB ps qs = A at *
  generalize mayW R C S O 1048576 = mw at *
  go_enter Try.func3, Try.ntmps3
  go_wp2_with fail
  generalize (w.alloc (.cells #[.int .i64 R, .int .i64 C, .int .i64 S, .int .i64 O] 23)).alloc (.cells #[.int .i64 R', .int .i64 C', .int .i64 S', .int .i64 O'] 23) = W0 at *
  refine (hal _).mono ?_
  rintro e W1 ⟨rfl, b1⟩
  replace B := below_both B b1
  replace G1 := G1.behind b1
  replace G2 := G2.behind b1
  clear hal b1 hw0
  have c00 := G1.cell (i := 0) rfl
  have c01 := G1.cell (i := 1) rfl
  have c02 := G1.cell (i := 2) rfl
  have c03 := G1.cell (i := 3) rfl
  have d00 := G2.cell (i := 0) rfl
  have d01 := G2.cell (i := 1) rfl
  have d02 := G2.cell (i := 2) rfl
  have d03 := G2.cell (i := 3) rfl
  have HK : Hid (∀ W, Below W1.heap.size W1 W → W.cell? ⟨w.heap.size, 0, none⟩ = some (.int .i64 R) ∧ W.cell? ⟨w.heap.size, 1, none⟩ = some (.int .i64 C) ∧ W.cell? ⟨w.heap.size, 2, none⟩ = some (.int .i64 S) ∧ W.cell? ⟨w.heap.size, 3, none⟩ = some (.int .i64 O)
      ∧ W.cell? ⟨w.heap.size + 1, 0, none⟩ = some (.int .i64 R') ∧ W.cell? ⟨w.heap.size + 1, 1, none⟩ = some (.int .i64 C') ∧ W.cell? ⟨w.heap.size + 1, 2, none⟩ = some (.int .i64 S') ∧ W.cell? ⟨w.heap.size + 1, 3, none⟩ = some (.int .i64 O')) := Lib.hid (fun W h =>
    ⟨(G1.behind h).cell (i := 0) rfl, (G1.behind h).cell (i := 1) rfl, (G1.behind h).cell (i := 2) rfl, (G1.behind h).cell (i := 3) rfl, (G2.behind h).cell (i := 0) rfl, (G2.behind h).cell (i := 1) rfl, (G2.behind h).cell (i := 2) rfl, (G2.behind h).cell (i := 3) rfl⟩)
  have Br : Below W1.heap.size W1 W1 := Below.refl _ _
  go_wp2_with fail
  go_region_held3 (fun W => W.cell? ⟨w.heap.size, 0, none⟩ = some (.int .i64 R) ∧ W.cell? ⟨w.heap.size, 1, none⟩ = some (.int .i64 C) ∧ W.cell? ⟨w.heap.size, 2, none⟩ = some (.int .i64 S) ∧ W.cell? ⟨w.heap.size, 3, none⟩ = some (.int .i64 O)
      ∧ W.cell? ⟨w.heap.size + 1, 0, none⟩ = some (.int .i64 R') ∧ W.cell? ⟨w.heap.size + 1, 1, none⟩ = some (.int .i64 C') ∧ W.cell? ⟨w.heap.size + 1, 2, none⟩ = some (.int .i64 S') ∧ W.cell? ⟨w.heap.size + 1, 3, none⟩ = some (.int .i64 O'))
    (first | with_reducible exact HK.out _ Br | with_reducible exact HK.out _ Br.drew | (refine ⟨?_, ?_, ?_, ?_, ?_, ?_, ?_, ?_⟩ <;> go_keep))
    (first
      | (go_at_call 16; (with_reducible refine (P1.out _).mono ?_); rintro e v4 ⟨v1, rfl, hN1, bz⟩; replace Br : Below W1.heap.size W1 v4 := (by first | with_reducible exact below_both Br bz | with_reducible exact below_both Br.drew bz); clear bz)
      | (go_at_call 16; (with_reducible refine (P2.out _).mono ?_); rintro e v5 ⟨v2, rfl, hN2, bz⟩; replace Br : Below W1.heap.size W1 v5 := (by first | with_reducible exact below_both Br bz | with_reducible exact below_both Br.drew bz); replace hN1 := hN1.behind bz; clear bz))
  clear P1 P2 c00 c01 c02 c03 d00 d01 d02 d03
  have hp5 : 0 < v5.heap.size := by have := Br.size; have := B.size; omega
  obtain ⟨T1, a1, x1, _, rfl, _, H1⟩ := hN1.arg.opened
  obtain ⟨T2, a2, x2, _, rfl, _, H2⟩ := hN2.arg.opened
  clear hN1 hN2
  have B5 := below_both B Br
  have K5 : Hid (∀ W, Below v5.heap.size v5 W → W.cell? ⟨w.heap.size, 0, none⟩ = some (.int .i64 R) ∧ W.cell? ⟨w.heap.size, 1, none⟩ = some (.int .i64 C) ∧ W.cell? ⟨w.heap.size, 2, none⟩ = some (.int .i64 S) ∧ W.cell? ⟨w.heap.size, 3, none⟩ = some (.int .i64 O)
      ∧ W.cell? ⟨w.heap.size + 1, 0, none⟩ = some (.int .i64 R') ∧ W.cell? ⟨w.heap.size + 1, 1, none⟩ = some (.int .i64 C') ∧ W.cell? ⟨w.heap.size + 1, 2, none⟩ = some (.int .i64 S') ∧ W.cell? ⟨w.heap.size + 1, 3, none⟩ = some (.int .i64 O')) := Lib.hid (fun W h => HK.out W (below_both Br h))
  clear HK G1 G2 Br B
  obtain ⟨c00, c01, c02, c03, _⟩ := K5.out v5 (Below.refl _ _)
  have hn1 := N1.out
  have hn2 := N2.out
  generalize ps.length = m at *
  generalize qs.length = n at *
  go_wp2_with fail
  refine (PM.out _).mono ?_
  rintro e W6 ⟨rfl, b6⟩
  obtain ⟨c00, c01, c02, c03, _⟩ := K5.out W6 b6
  go_upto_if 19 with (fail)
  go_cut [7] from 19 to 24 (fun u wx => u = .int .i64 (m : Int) ∧ wx = W6)
  case first =>
    cases mw
    · have h := HL.out.2 rfl
      subst h
      go_wp2
      go_meet
      exact ⟨rfl, rfl⟩
    · have h := (HL.out.1 rfl).2
      go_wp2
      go_meet
      exact ⟨rfl, rfl⟩
  obtain ⟨rfl, hw3⟩ := hcut
  cases hw3
  go_wp2
  go_loopw [8] (fun i wr => ∃ k : Nat, k ≤ m ∧ i = .int .i64 k ∧ Below v5.heap.size v5 wr) (fun i _ => m - (intOf i).toNat)
  case atStart => exact ⟨0, Nat.zero_le _, rfl, b6⟩
  case round =>
    obtain ⟨k, hk, rfl, hB⟩ := hrel
    by_cases hlt : k < m
    · obtain ⟨c, hc, hc0, q, Q, Q2, s0, s1, s2, s3⟩ := HS.out k hlt
      obtain ⟨o, rfl, kc⟩ := H1.out wr hB k hlt
      obtain ⟨c00, c01, c02, c03, _⟩ := K5.out wr hB
      generalize zat ps k = z at *
      subst hc
      have hlt2 : (k : Int) < (m : Int) := by omega
      have hci : ¬ (c : Int) = 0 := by omega
      have hcn : ¬ c = 0 := by omega
      have hd : ((z : Int) != z) = false := by simp
      go_wp2
      go_quiet (fail)
      go_wp2
      exact ⟨⟨k + 1, by omega, by simp, below_both hB (below_drewN _ _ _)⟩, by simp [intOf]; omega⟩
    · obtain rfl : k = m := by omega
      clear HS HL hlt hk PM
      obtain ⟨wo, rfl⟩ : ∃ wo, wo = wr := ⟨_, rfl⟩
      go_wp2
      go_loopw [9, 10] (fun o i wr => ∃ (b : Bool) (t : Nat), t ≤ k ∧ i = .int .i64 t ∧ o = .bool b ∧ Hid (b = true ↔ ∀ i', i' < t → ∀ j, j < n → zat ps i' ≠ zat qs j) ∧ Below v5.heap.size v5 wr) (fun _ i _ => k - (intOf i).toNat)
      case atStart => exact ⟨true, 0, Nat.zero_le _, rfl, rfl, Lib.hid ⟨fun _ i h => absurd h (Nat.not_lt_zero i), fun _ => rfl⟩, hB⟩
      case round =>
        obtain ⟨b, t, ht, rfl, rfl, HBT, hB2⟩ := hrel
        by_cases hlt : t < k
        · go_wp2
          obtain ⟨wp, rfl⟩ : ∃ wp, wp = wr := ⟨_, rfl⟩
          go_loopw [9, 11] (fun o i wr => ∃ (b : Bool) (u : Nat), u ≤ n ∧ i = .int .i64 u ∧ o = .bool b ∧ Hid (b = true ↔ (∀ i', i' < t → ∀ j, j < n → zat ps i' ≠ zat qs j) ∧ ∀ j, j < u → zat ps t ≠ zat qs j) ∧ Below v5.heap.size v5 wr) (fun _ i _ => n - (intOf i).toNat)
          case atStart => exact ⟨b, 0, Nat.zero_le _, rfl, rfl, Lib.hid ⟨fun h => ⟨HBT.out.1 h, fun j h => absurd h (Nat.not_lt_zero j)⟩, fun h => HBT.out.2 h.1⟩, hB2⟩
          case round =>
            obtain ⟨b, u, hu, rfl, rfl, HBU, hB3⟩ := hrel
            by_cases hlu : u < n
            · obtain ⟨o1, rfl, k1⟩ := H1.out wr hB3 t hlt
              obtain ⟨o2, rfl, k2⟩ := H2.out wr hB3 u hlu
              have hlt2 : (t : Int) < (k : Int) := by omega
              have hlu2 : (u : Int) < (n : Int) := by omega
              cases b
              · have HX : Hid (false = true ↔ (∀ i', i' < t → ∀ j, j < n → zat ps i' ≠ zat qs j) ∧ ∀ j, j < u + 1 → zat ps t ≠ zat qs j) := Lib.hid ⟨fun h => absurd h (by decide), fun h => HBU.out.2 ⟨h.1, fun j hj => h.2 j (by omega)⟩⟩
                go_wp2
                go_quiet (fail)
                go_wp2
                exact ⟨⟨false, u + 1, by omega, by simp, rfl, HX, below_both hB3 (below_drewN _ _ _)⟩, by simp [intOf]; omega⟩
              · have HX : Hid ((zat ps t != zat qs u) = true ↔ (∀ i', i' < t → ∀ j, j < n → zat ps i' ≠ zat qs j) ∧ ∀ j, j < u + 1 → zat ps t ≠ zat qs j) := Lib.hid (by
                  rw [bne_iff_ne]
                  constructor
                  · intro h
                    refine ⟨(HBU.out.1 rfl).1, fun j hj => ?_⟩
                    rcases Nat.lt_or_ge j u with e | e
                    · exact (HBU.out.1 rfl).2 j e
                    · obtain rfl : j = u := by omega
                      exact h
                  · intro h; exact h.2 u (by omega))
                generalize zat ps t = z1 at *
                generalize zat qs u = z2 at *
                go_wp2
                go_quiet (fail)
                go_wp2
                exact ⟨⟨(z1 != z2), u + 1, by omega, by simp, rfl, HX, below_both hB3 (below_drewN _ _ _)⟩, by simp [intOf]; omega⟩
            · obtain rfl : u = n := by omega
              have HX : Hid (b = true ↔ ∀ i', i' < t + 1 → ∀ j, j < u → zat ps i' ≠ zat qs j) := Lib.hid (by
                constructor
                · intro h i' hi' j hj
                  rcases Nat.lt_or_ge i' t with e | e
                  · exact (HBU.out.1 h).1 i' e j hj
                  · obtain rfl : i' = t := by omega
                    exact (HBU.out.1 h).2 j hj
                · intro h
                  exact HBU.out.2 ⟨fun i' hi' j hj => h i' (by omega) j hj, fun j hj => h t (by omega) j hj⟩)
              have ht64 : (t : Int) ≤ 4096 := by omega
              go_wp2
              go_roundw
              case rel => exact ⟨b, t + 1, by omega, by simp, rfl, HX, hB3⟩
              case measure => simp [intOf]; omega
        · obtain rfl : t = k := by omega
          have hA : A = b := by
            rw [Bool.eq_iff_iff]
            exact HY.out.trans HBT.out.symm
          subst hA
          obtain ⟨c00, c01, c02, c03, d00, d01, d02, d03⟩ := K5.out wr hB2
          have hp6 : 0 < wr.heap.size := by have := hB2.size; omega
          have PAA := PA.out wr hp6
          have hAA : (A == A) = true := by cases A <;> rfl
          clear HBT HY PA H1 H2 N1 N2
          go_wp2_with fail
          refine PAA.mono ?_
          rintro e W9 ⟨rfl, b9⟩
          go_wp2
          go_ret
          exact ⟨rfl, below_both (below_both B5 hB2) b9⟩
end Go.Proofs.Ytgppbimbampenaa
