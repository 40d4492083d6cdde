/- vernierlaw16.MortonFrom, walked. -/
import Derived.Test.YtaefalmabphadaaMoFrom
namespace Go.Proofs.Ytaefalmabphadaa
open Go.RowKit Go.Shelf
theorem mod16' {x : Nat} (h : x < 65536) : ((x : Int) % 65536).toNat = x := by omega
theorem plc_facts {i j t : Nat} (hi : i < 65536) (hj : j < 65536) (ht : 1 ≤ t) (h8 : t ≤ 8) : ∃ a b c d S U V Y X : Nat, (i : Int).tdiv (t : Int) = (a : Int) ∧ (j : Int).tdiv (t : Int) = (b : Int) ∧ (i : Int).tmod (t : Int) = (c : Int) ∧ (j : Int).tmod (t : Int) = (d : Int) ∧
    IntKind.i64.wrap (a : Int) = (a : Int) ∧ IntKind.i64.wrap (b : Int) = (b : Int) ∧ IntKind.i64.wrap (c : Int) = (c : Int) ∧ IntKind.i64.wrap (d : Int) = (d : Int) ∧
    Hid (∀ w, Calls Try.prog 34 #[.int .i64 (a : Int), .int .i64 (b : Int)] w fun e W' => e = .returned (.int .i64 (S : Int)) ∧ w = W') ∧
    IntKind.i64.wrap ((S : Int) * (t : Int)) = (U : Int) ∧ IntKind.i64.wrap ((U : Int) * (t : Int)) = (V : Int) ∧ IntKind.i64.wrap ((c : Int) * (t : Int)) = (Y : Int) ∧ IntKind.i64.wrap ((V : Int) + (Y : Int)) = (X : Int) ∧
    IntKind.i64.wrap ((X : Int) + (d : Int)) = ((plc i j t : Nat) : Int) ∧ ((t : Int) == 0) = false := by
  have d1 : i / t ≤ i := Nat.div_le_self _ _
  have d2 : j / t ≤ j := Nat.div_le_self _ _
  have m1 : i % t < t := Nat.mod_lt _ ht
  have m2 : j % t < t := Nat.mod_lt _ ht
  have hin : ∀ w, Calls Try.prog 34 #[.int .i64 ((i / t : Nat) : Int), .int .i64 ((j / t : Nat) : Int)] w fun e W' => e = .returned (.int .i64 ((spr (i / t) (j / t) 16 : Nat) : Int)) ∧ w = W' := fun w => by
    have h := l_spread (i := ((i / t : Nat) : Int)) (j := ((j / t : Nat) : Int)) (w := w)
    rwa [mod16' (Nat.lt_of_le_of_lt d1 hi), mod16' (Nat.lt_of_le_of_lt d2 hj)] at h
  have hS := spr_lt (i / t) (j / t) 16
  rw [show (4 : Nat) ^ 16 = 4294967296 from rfl] at hS
  refine ⟨i / t, j / t, i % t, j % t, spr (i / t) (j / t) 16, spr (i / t) (j / t) 16 * t, spr (i / t) (j / t) 16 * t * t, i % t * t, spr (i / t) (j / t) 16 * t * t + i % t * t, Int.ofNat_tdiv i t, Int.ofNat_tdiv j t, Int.ofNat_tmod i t, Int.ofNat_tmod j t, ?_⟩
  have e0 : plc i j t = spr (i / t) (j / t) 16 * t * t + i % t * t + j % t := rfl
  generalize plc i j t = P at *
  generalize spr (i / t) (j / t) 16 = S at *
  generalize i / t = a at *
  generalize j / t = b at *
  generalize i % t = c at *
  generalize j % t = d at *
  have b1 : S * t ≤ S * 8 := Nat.mul_le_mul_left _ h8
  have w1 : IntKind.i64.wrap ((S : Int) * (t : Int)) = ((S * t : Nat) : Int) := by rw [← Int.natCast_mul]; exact IntWalk.i64_in _ (by omega)
  generalize S * t = U at *
  have b2 : U * t ≤ U * 8 := Nat.mul_le_mul_left _ h8
  have w2 : IntKind.i64.wrap ((U : Int) * (t : Int)) = ((U * t : Nat) : Int) := by rw [← Int.natCast_mul]; exact IntWalk.i64_in _ (by omega)
  generalize U * t = V at *
  have b3 : c * t ≤ 8 * 8 := Nat.mul_le_mul (by omega) h8
  have w3 : IntKind.i64.wrap ((c : Int) * (t : Int)) = ((c * t : Nat) : Int) := by rw [← Int.natCast_mul]; exact IntWalk.i64_in _ (by omega)
  generalize c * t = Y at *
  refine ⟨IntWalk.i64_in _ (by omega), IntWalk.i64_in _ (by omega), IntWalk.i64_in _ (by omega), IntWalk.i64_in _ (by omega), Lib.hid hin, w1, w2, w3, ?_, ?_, beq_eq_false_iff_ne.2 (by omega)⟩
  · rw [IntWalk.i64_in _ (by omega)]; omega
  · rw [IntWalk.i64_in _ (by omega)]; omega
set_option maxRecDepth 100000 in
set_option maxHeartbeats 8000000 in
theorem mortonFrom_calls {a : Option Addr} {m cap : Nat} {R C t : Int} {xs : List Nat} {w : World} (hA : Arg w (.slice a m cap) xs) (h1 : -9223372036854775808 ≤ t) (h2 : t ≤ 9223372036854775807) :
    Calls Try.prog 11 #[.slice a m cap, .int .i64 R, .int .i64 C, .int .i64 t] w fun e W' => e = .returned (.bool true) ∧ Below w.heap.size w W' := by
  have hal := l_alive16
  have hL := fun w => lside_any (R := R) (C := C) (t := t) w
  obtain ⟨p1, p2, p3, hq⟩ := side_facts' (R := R) (C := C) (t := t) h1 h2
  cases hok : sideOK R C t
  · have hf := fun w => mo_from_no (a := a) (m := m) (cap := cap) (w := w) hok h1 h2
    rw [show sidN R C t = 0 by unfold sidN; rw [hok]; rfl] at hL
    clear p1 p2 p3 hq hok h1 h2
    go_enter Try.func11, Try.ntmps11
    go_wp2_with fail
    refine (hal _).mono ?_
    rintro e w1 ⟨rfl, b1⟩
    go_wp2_with fail
    refine (hf _).mono ?_
    rintro e w2 ⟨rfl, b2⟩
    obtain ⟨b3, G⟩ := mbox w2 #[.int .i64 0, .int .i64 0, .slice none 0 0] 24 _ rfl
    have c02 := G.cell (i := 2) rfl
    go_wp2_with fail
    refine (hL _).mono ?_
    rintro e w3 ⟨rfl, rfl⟩
    go_wp2
    go_ret
    exact ⟨rfl, below_both (below_both b1 b2) b3⟩
  · obtain ⟨r, c, s, rfl, rfl, rfl, k1, k2, k3, k4, k5, k6⟩ := sideOK_nat hok
    rw [show sidN r c s = sdn (max r c) s by unfold sidN; rw [hok]; rfl] at hL p1 p2 p3 hq
    rw [show sizM r c s = sizN (max r c) s by unfold sizM; rw [hok]; rfl] at p3 hq
    rw [show sidE r c s = 0 by unfold sidE; rw [hok]; rfl] at hq
    have hD : 0 < sdn (max r c) s := by
      rcases hq with h | h
      · exact h.2
      · exact absurd h.1 (by decide)
    clear hq
    have hml := sized_of' hA
    by_cases hm : m = sizN (max r c) s
    · have hf := fun (W : World) (h : Arg W (.slice a m cap) xs) => mo_from h k1 k2 k3 k4 k5 k6 hm
      have hpl : ∀ i j, i < r → j < c → plc i j s < m := fun i j hi hj => by rw [hm]; exact plc_lt (by omega) k5 (by omega) (by omega)
      rw [← hm] at p3
      have d0 : ((sdn (max r c) s : Int) == 0) = false := beq_eq_false_iff_ne.2 (by omega)
      generalize sdn (max r c) s * sdn (max r c) s * (s : Int).toNat = B at *
      generalize sdn (max r c) s * sdn (max r c) s = A at *
      generalize sdn (max r c) s = D at *
      have dm : ((m : Int) != (m : Int)) = false := by simp
      have hgt : ∀ i j, i < r → j < c → lim (tab r c fun i j => lim xs (plc i j s)) (i * c + j) = lim xs (plc i j s) := fun i j hi hj => tab_lim (fun i j => lim xs (plc i j s)) hi hj
      have hlt' : (tab r c fun i j => lim xs (plc i j s)).length = r * c := tab_length _ _ _
      generalize (tab r c fun i j => lim xs (plc i j s)) = ys at *
      have HF := Lib.hid hf
      have HPL := Lib.hid hpl
      have HGT := Lib.hid hgt
      have HYL := Lib.hid hlt'
      have HA0 := Lib.hid hA
      obtain ⟨T, a', c', hT, e, hcap, HA⟩ := hA.opened
      simp only [Value.slice.injEq] at e
      obtain ⟨rfl, rfl, rfl⟩ := e
      clear hf hpl hgt hm hlt' hml hok hA h1 h2 hD
      generalize xs.length = m at *
      go_enter Try.func11, Try.ntmps11
      go_wp2_with fail
      refine (hal _).mono ?_
      rintro e w1 ⟨rfl, b1⟩
      clear hal
      go_wp2_with fail
      refine (HF.out _ (HA0.out.behind b1)).mono ?_
      rintro e w2 ⟨ba, ca, rfl, hN, b2⟩
      obtain ⟨b3, G⟩ := mbox w2 #[.int .i64 (r : Int), .int .i64 (c : Int), .slice ba (r * c) ca] 24 _ rfl
      have hN3 := hN.behind b3
      have B3 := below_both (below_both b1 b2) b3
      have c02 := G.cell (i := 2) rfl
      have hw2 : w2.heap.size < (w2.alloc (.cells #[.int .i64 (r : Int), .int .i64 (c : Int), .slice ba (r * c) ca] 24)).heap.size := G.lt
      clear hN b3
      go_wp2_with fail
      generalize w2.alloc (.cells #[.int .i64 (r : Int), .int .i64 (c : Int), .slice ba (r * c) ca] 24) = W0 at *
      refine (hL _).mono ?_
      rintro e w3 ⟨rfl, rfl⟩
      clear hL
      obtain ⟨Ty, ay, cy, hTy, ey, hcy, HY⟩ := hN3.arg.opened
      rw [HYL.out] at ey
      simp only [Value.slice.injEq, true_and] at ey
      obtain ⟨rfl, rfl⟩ := ey
      go_wp2
      go_loopw [12] (fun i wr => ∃ q : Nat, q ≤ r ∧ i = .int .i64 q ∧ Below W0.heap.size W0 wr) (fun i _ => r - (intOf i).toNat)
      case atStart => exact ⟨0, Nat.zero_le _, rfl, Below.refl _ _⟩
      case round =>
        obtain ⟨q, hq, rfl, hB⟩ := hrel
        by_cases hlt : q < r
        · go_wp2
          obtain ⟨wo, rfl⟩ : ∃ wo : World, wo = wr := ⟨_, rfl⟩
          go_loopw [13] (fun j wi => ∃ k : Nat, k ≤ c ∧ j = .int .i64 k ∧ Below W0.heap.size W0 wi) (fun j _ => c - (intOf j).toNat)
          case atStart => exact ⟨0, Nat.zero_le _, rfl, hB⟩
          case round =>
            obtain ⟨k, hk, rfl, hBr⟩ := hrel
            by_cases hkt : k < c
            · have c02 := (G.behind hBr).cell (i := 2) rfl
              obtain ⟨f1, f2, f3, f4, S, U, V, Y, X, g1, g2, g3, g4, g5, g6, g7, g8, HSP, g9, g10, g11, g12, g13, g14⟩ := plc_facts (i := q) (j := k) (t := s) (by omega) (by omega) k5 k6
              have hp := HPL.out q k hlt hkt
              have hqc : q * c + k < r * c := by
                have := Nat.mul_le_mul_right c (show q + 1 ≤ r from hlt)
                rw [Nat.add_mul, Nat.one_mul] at this
                omega
              obtain ⟨oy, rfl, ky⟩ := HY.out wr hBr (q * c + k) (by rw [HYL.out]; exact hqc)
              rw [HGT.out q k hlt hkt] at ky
              obtain ⟨oa, rfl, ka⟩ := HA.out wr (below_both B3 hBr) (plc q k s) hp
              obtain ⟨z1, z2⟩ := wplace (i := q) (C := c) (j := k) (by omega) k4 (by omega)
              generalize plc q k s = pl at *
              generalize q * c + k = P at *
              generalize q * c = Q at *
              generalize hrc : r * c = RC at *
              clear hrc
              generalize lim xs pl = v at *
              go_wp2_with fail
              go_quiet ((go_at_call 34; exact Calls.quiet_of_same ((HSP.out _).mono fun e W' ⟨h1, h2⟩ => ⟨h1, h2.symm⟩)))
              go_wp2
              go_roundw
              case rel => exact ⟨k + 1, by omega, by simp, below_both hBr (below_drewN _ _ _)⟩
              case measure => simp [intOf]; omega
            · obtain rfl : k = c := by omega
              go_wp2
              go_roundw
              case rel => exact ⟨q + 1, by omega, by simp, hBr⟩
              case measure => simp [intOf]; omega
        · obtain rfl : q = r := by omega
          go_wp2
          go_ret
          exact ⟨rfl, below_both B3 hB⟩
    · have hf := fun w => mo_from_long (a := a) (m := m) (cap := cap) (w := w) k1 k2 k3 k4 k5 k6 hm
      have d0 : ((sdn (max r c) s : Int) == 0) = false := beq_eq_false_iff_ne.2 (by omega)
      have dm : ((m : Int) != (sizN (max r c) s : Int)) = true := bne_iff_ne.2 (by omega)
      generalize sdn (max r c) s * sdn (max r c) s * (s : Int).toNat = B at *
      generalize sdn (max r c) s * sdn (max r c) s = A at *
      generalize sdn (max r c) s = D at *
      generalize sizN (max r c) s = Z at *
      clear hm hok h1 h2 hD hml hA
      go_enter Try.func11, Try.ntmps11
      go_wp2_with fail
      refine (hal _).mono ?_
      rintro e w1 ⟨rfl, b1⟩
      go_wp2_with fail
      refine (hf _).mono ?_
      rintro e w2 ⟨rfl, b2⟩
      obtain ⟨b3, G⟩ := mbox w2 #[.int .i64 0, .int .i64 0, .slice none 0 0] 24 _ rfl
      have c02 := G.cell (i := 2) rfl
      go_wp2_with fail
      refine (hL _).mono ?_
      rintro e w3 ⟨rfl, rfl⟩
      go_wp2
      go_ret
      exact ⟨rfl, below_both (below_both b1 b2) b3⟩
end Go.Proofs.Ytaefalmabphadaa
