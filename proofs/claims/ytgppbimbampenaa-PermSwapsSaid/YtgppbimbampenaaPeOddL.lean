/- The laws PermOdd, PermSwaps, walked. -/
import Derived.Test.YtgppbimbampenaaPeOdd
import Derived.Test.YtgppbimbampenaaPeTells
namespace Go.Proofs.Ytgppbimbampenaa
open Go.RowKit Go.Shelf
theorem plain_ints {va vb : Value} {xs : List Int} {w : World} (hA : ArgK .i64 w va xs) (hB : ArgK .i64 w vb xs) (hxl : xs.length ≤ 17592186044416) :
    Calls Try.prog 31 #[va, vb] w fun e w' => e = .returned (.bool true) ∧ Below w.heap.size w w' := by
  obtain ⟨S, a, cap, hS, rfl, hcap, HA⟩ := hA.opened
  obtain ⟨T, b, bap, hT, rfl, hbap, HB⟩ := hB.opened
  clear hA hB hcap hbap
  generalize xs.length = m at *
  have dm : (m != m) = false := by simp
  go_enter Try.func31, Try.ntmps31
  go_wp2
  go_loopw [5] (fun i wr => ∃ k : Nat, k ≤ m ∧ i = .int .i64 k ∧ Below w.heap.size w wr) (fun i _ => m - (intOf i).toNat)
  case atStart => exact ⟨0, Nat.zero_le _, rfl, Below.refl _ _⟩
  case round =>
    obtain ⟨k, hk, rfl, hB⟩ := hrel
    by_cases hlt : k < m
    · obtain ⟨oa, rfl, ka⟩ := HA.out wr hB k hlt
      obtain ⟨ob, rfl, kb⟩ := HB.out wr hB k hlt
      have hlt2 : (k : Int) < (m : Int) := by omega
      generalize zat xs k = v at *
      go_wp2
      go_quiet (fail)
      go_wp2
      go_roundw
      case rel => exact ⟨k + 1, by omega, by simp, below_both hB (below_drewN _ _ _)⟩
      case measure => simp [intOf]; omega
    · go_wp2
      go_ret
      exact ⟨rfl, hB⟩
set_option maxRecDepth 100000 in
set_option maxHeartbeats 8000000 in
theorem permOdd_calls {vp vq : Value} {ps qs : List Int} {w : World} (hpos : 0 < w.heap.size) (hP : ArgK .i64 w vp ps) (hQ : ArgK .i64 w vq qs) (hpn : ps.length ≤ 17592186044416) (hqn : qs.length ≤ 17592186044416) :
    Calls Try.prog 7 #[vp, vq] w fun e W' => e = .returned (.bool true) ∧ Below w.heap.size w W' := by
  have hal := law17_alive (w := w)
  have C1 := Lib.hid (fun (W : World) (h : Below w.heap.size w W) => perm_then (hP.behind h) (hQ.behind h) hpn hqn)
  have C2 := Lib.hid (fun (W : World) (h : Below w.heap.size w W) => perm_odd (hP.behind h))
  have C3 := Lib.hid (fun (W : World) (h : Below w.heap.size w W) => perm_odd (hQ.behind h))
  by_cases hE : thenE ps qs = 0
  · have hb : permB ps = true ∧ permB qs = true ∧ ps.length = qs.length := by
      unfold thenE at hE
      by_cases h1 : chkP ps = 0
      · by_cases h2 : chkP qs = 0
        · by_cases h3 : ps.length = qs.length
          · exact ⟨chkP_perm.1 h1, chkP_perm.1 h2, h3⟩
          · rw [if_neg (by simp [h1]), if_neg (by simp [h2]), if_pos h3] at hE; cases hE
        · rw [if_neg (by simp [h1]), if_pos h2] at hE; exact absurd hE h2
      · rw [if_pos h1] at hE; exact absurd hE h1
    obtain ⟨hp, hq, hl⟩ := hb
    have hR := thenZ_perm hp hq hl
    have hsg := sgZ_then hp hq hl
    have hTL : thenL ps qs = thenZ ps qs := by unfold thenL; rw [if_pos hE]
    have hRl := thenZ_length ps qs
    have hO : Hid ((oddP (thenZ ps qs) == (oddP ps != oddP qs)) = true) := Lib.hid (by
      unfold oddP; rw [hR, hp, hq, hsg]; cases sgZ ps <;> cases sgZ qs <;> rfl)
    have hI : invE (thenZ ps qs) = invZ (thenZ ps qs) (thenZ ps qs).length := by unfold invE; rw [hR, if_pos rfl]
    have hIp := invZ_perm hR
    have hIl := invZ_length (thenZ ps qs) (thenZ ps qs).length
    have hC : chkP (thenZ ps qs) = 0 := chkP_perm.2 hR
    have hE2 : thenE (thenZ ps qs) (invE (thenZ ps qs)) = 0 := by
      unfold thenE
      rw [hI, if_neg (by simp [hC]), if_neg (by simp [chkP_perm.2 hIp]), if_neg (by rw [hIl]; simp)]
    have hT2 : thenL (thenZ ps qs) (invE (thenZ ps qs)) = idN (ps.length : Int) := by
      unfold thenL
      rw [if_pos hE2, hI, then_inv hR, hRl, ← hl]
      unfold idN
      rw [if_pos ⟨by omega, by have := (permB_iff.1 hp).1; omega⟩, Int.toNat_natCast]
    have hIN : (idN (ps.length : Int)).length ≤ 17592186044416 := by have := idN_length (ps.length : Int); split at this <;> omega
    have hIV : (invE (thenZ ps qs)).length ≤ 17592186044416 := by rw [hI, hIl]; omega
    rw [hE] at C1
    rw [hTL] at C1
    have hRn : (thenZ ps qs).length ≤ 17592186044416 := by omega
    obtain ⟨S, a1, c1, hS, rfl, hc1, HA⟩ := hP.opened
    obtain ⟨T, a2, c2, hT, rfl, hc2, HB⟩ := hQ.opened
    clear hP hQ hR hsg hTL hp hq hl hI hIp hIl hE hpn hqn hRl
    generalize thenZ ps qs = R at *
    go_enter Try.func7, Try.ntmps7
    go_wp2_with fail
    refine hal.mono ?_
    rintro e W1 ⟨rfl, b1⟩
    clear hal
    go_wp2_with fail
    refine (C1.out _ b1).mono ?_
    rintro e W2 ⟨u1, rfl, o1, b2⟩
    replace b1 := below_both b1 b2
    clear b2 C1
    have hp2 : 0 < W2.heap.size := Nat.lt_of_lt_of_le hpos b1.size
    have A1 := o1.arg hp2
    have D1 := Lib.hid (fun (W : World) (h : Below W2.heap.size W2 W) => perm_inverse (A1.behind h))
    have D2 := Lib.hid (fun (W : World) (h : Below W2.heap.size W2 W) => perm_odd (A1.behind h))
    rw [hC] at D1
    clear o1
    go_wp2_with fail
    refine (D1.out _ (Below.refl _ _)).mono ?_
    rintro e W3 ⟨u2, rfl, o2, b2⟩
    have A2 := o2.arg (Nat.lt_of_lt_of_le hp2 b2.size)
    have D3 := Lib.hid (perm_then (A1.behind b2) A2 hRn hIV)
    rw [hE2, hT2] at D3
    replace b1 := below_both b1 b2
    have B2 := b2
    clear o2 A2 D1
    go_wp2_with fail
    refine D3.out.mono ?_
    rintro e W4 ⟨u3, rfl, o3, b2⟩
    replace b1 := below_both b1 b2
    replace B2 := below_both B2 b2
    have A3 := o3.arg (Nat.lt_of_lt_of_le hpos b1.size)
    clear D3 b2 o3 A1
    have G1 := fun W (h : Below W4.heap.size W4 W) => D2.out W (below_both B2 h)
    have G2 := fun W (h : Below W4.heap.size W4 W) => C2.out W (below_both b1 h)
    have G3 := fun W (h : Below W4.heap.size W4 W) => C3.out W (below_both b1 h)
    have G4 := fun W => perm_identity (n := (ps.length : Int)) (w := W)
    have G5 := Lib.hid (fun W (v : Value) (h : Below W4.heap.size W4 W) (hv : ArgK .i64 W v (idN (ps.length : Int))) => plain_ints (A3.behind h) hv hIN)
    clear A3 C2 C3 D2
    have ho := hO.out
    clear hO hC hE2 hT2 hIN hIV hRn
    generalize oddP R = x at *
    generalize oddP ps = y at *
    generalize oddP qs = z at *
    generalize idN (ps.length : Int) = DD at *
    obtain rfl : x = (y != z) := beq_iff_eq.1 ho
    clear ho
    cases y <;> cases z
    all_goals
      go_wp2_with fail
      refine (G1 _ (Below.refl _ _)).mono ?_
      rintro e W5 ⟨rfl, b5⟩
      go_wp2_with fail
      refine (G2 _ b5).mono ?_
      rintro e W6 ⟨rfl, b6⟩
      replace b5 := below_both b5 b6
      go_wp2_with fail
      refine (G3 _ b5).mono ?_
      rintro e W7 ⟨rfl, b6⟩
      replace b5 := below_both b5 b6
      clear G1 G2 G3 b6
      go_wp2_with fail
      refine (G4 _).mono ?_
      rintro e W8 ⟨u4, rfl, o4, b6⟩
      have hp8 := Nat.lt_of_lt_of_le hpos (below_both b1 (below_both b5 b6)).size
      have G6 := G5.out W8 u4 (below_both b5 b6) (o4.arg hp8)
      clear G4 G5
      go_wp2_with fail
      refine G6.mono ?_
      rintro e W9 ⟨rfl, b9⟩
      clear G6
      go_wp2
      go_ret
      exact ⟨rfl, below_both b1 (below_both (below_both b5 b6) b9)⟩
  · have hTL : thenL ps qs = [] := by unfold thenL; rw [if_neg hE]
    have d : (thenE ps qs != 0) = true := bne_iff_ne.2 hE
    rw [hTL] at C1
    obtain ⟨S, a1, c1, hS, rfl, hc1, HA⟩ := hP.opened
    obtain ⟨T, a2, c2, hT, rfl, hc2, HB⟩ := hQ.opened
    clear hP hQ hTL hE C2 C3
    generalize thenE ps qs = E at *
    go_enter Try.func7, Try.ntmps7
    go_wp2_with fail
    refine hal.mono ?_
    rintro e W1 ⟨rfl, b1⟩
    clear hal
    go_wp2_with fail
    refine (C1.out _ b1).mono ?_
    rintro e W2 ⟨u1, rfl, o1, b2⟩
    obtain ⟨u2, u3, hu⟩ := o1.len
    subst hu
    go_wp2
    go_ret
    exact ⟨rfl, below_both b1 b2⟩
end Go.Proofs.Ytgppbimbampenaa
