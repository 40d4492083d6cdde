/- vernierlaw16.MortonTells, walked. -/
import Derived.Test.YtaefalmabphadaaMoTells
namespace Go.Proofs.Ytaefalmabphadaa
open Go.RowKit Go.Shelf
theorem spread_back (z : Int) (w : World) : Calls Try.prog 34 #[.int .i64 ((oddZ (z % 4294967296).toNat 16 : Nat) : Int), .int .i64 ((evnZ (z % 4294967296).toNat 16 : Nat) : Int)] w fun e W' => e = .returned (.int .i64 (((z % 4294967296).toNat : Nat) : Int)) ∧ w = W' := by
  have h := l_spread (i := ((oddZ (z % 4294967296).toNat 16 : Nat) : Int)) (j := ((evnZ (z % 4294967296).toNat 16 : Nat) : Int)) (w := w)
  have a1 : oddZ (z % 4294967296).toNat 16 < 65536 := gat_lt (fun b => Nat.le_of_lt_succ (Nat.mod_lt _ (by decide))) 16
  have a2 : evnZ (z % 4294967296).toNat 16 < 65536 := gat_lt (fun b => Nat.le_of_lt_succ (Nat.mod_lt _ (by decide))) 16
  rw [show (((oddZ (z % 4294967296).toNat 16 : Nat) : Int) % 65536).toNat = oddZ (z % 4294967296).toNat 16 by omega, show (((evnZ (z % 4294967296).toNat 16 : Nat) : Int) % 65536).toNat = evnZ (z % 4294967296).toNat 16 by omega, show spr (oddZ (z % 4294967296).toNat 16) (evnZ (z % 4294967296).toNat 16) 16 = (z % 4294967296).toNat % 4294967296 from spr_gat _, Nat.mod_eq_of_lt (by omega)] at h
  exact h
/-- the law's tests of sides, sizes, as the walk spells them -/
structure SideFacts (D Z : Nat) (E t : Int) : Prop where
  p1 : IntKind.i64.wrap ((D : Int) * (D : Int)) = ((D * D : Nat) : Int)
  p2 : IntKind.i64.wrap (((D * D : Nat) : Int) * t) = ((D * D * t.toNat : Nat) : Int)
  p3 : IntKind.i64.wrap (((D * D * t.toNat : Nat) : Int) * t) = (Z : Int)
  q : (E = 0 ∧ 0 < D) ∨ (E = 11 ∧ D = 0 ∧ Z = 0)
theorem side_facts {R C t : Int} (h1 : -9223372036854775808 ≤ t) (h2 : t ≤ 9223372036854775807) : SideFacts (sidN R C t) (sizM R C t) (sidE R C t) t := by
  obtain ⟨e, hy, hn⟩ := sides_hold (R := R) (C := C) (t := t)
  cases h : sideOK R C t
  · obtain ⟨a, b, c⟩ := hn h
    rw [a, b, c]
    refine ⟨?_, ?_, ?_, .inr ⟨rfl, rfl, rfl⟩⟩
    · decide
    · rw [show (0 * 0 * t.toNat : Nat) = 0 by simp, show ((0 * 0 : Nat) : Int) = 0 from rfl, Int.zero_mul]; decide
    · rw [show (0 * 0 * t.toNat : Nat) = 0 by simp, show ((0 : Nat) : Int) = 0 from rfl, Int.zero_mul]; decide
  · obtain ⟨a, b, c, d, f⟩ := hy h
    rw [f, e]
    generalize sidN R C t = D at *
    obtain ⟨T, rfl⟩ : ∃ T : Nat, t = T := ⟨t.toNat, by omega⟩
    rw [Int.toNat_natCast]
    have b1 := Nat.mul_le_mul a a
    have b2 := Nat.mul_le_mul b1 (show T ≤ 8 by omega)
    have b3 := Nat.mul_le_mul b2 (show T ≤ 8 by omega)
    refine ⟨?_, ?_, ?_, .inl ⟨rfl, b⟩⟩
    · rw [← Int.natCast_mul]; exact IntWalk.i64_in _ (by omega)
    · rw [Int.toNat_natCast, ← Int.natCast_mul]; exact IntWalk.i64_in _ (by omega)
    · rw [Int.toNat_natCast, ← Int.natCast_mul]; exact IntWalk.i64_in _ (by omega)
theorem mod16 {x : Nat} (h : x < 65536) : ((x : Int) % 65536).toNat = x := by omega
set_option maxRecDepth 100000 in
set_option maxHeartbeats 8000000 in
theorem mortonTells_calls {i j t R C z : Int} {w : World} (h1 : -9223372036854775808 ≤ i) (h2 : i ≤ 9223372036854775807) (h3 : -9223372036854775808 ≤ j) (h4 : j ≤ 9223372036854775807) (h5 : -9223372036854775808 ≤ t) (h6 : t ≤ 9223372036854775807) :
    Calls Try.prog 8 #[.int .i64 i, .int .i64 j, .int .i64 t, .int .i64 R, .int .i64 C, .int .i64 z] w fun e W' => e = .returned (.bool true) ∧ Below w.heap.size w W' := by
  have hal := l_alive16
  have hS := fun w => side_any (R := R) (C := C) (t := t) w
  have hZ := fun w => size_any (R := R) (C := C) (t := t) h5 h6 w
  have hL := fun w => lside_any (R := R) (C := C) (t := t) w
  have hA := fun w => mo_apart (z := z) (w := w)
  have hB := spread_back z
  have hI := fun w => mo_inter (i := i) (j := j) (w := w) h1 h2 h3 h4
  have hP := fun w => l_spread (i := i) (j := j) (w := w)
  have hX := fun w => index_any (i := i) (j := j) (t := t) w
  obtain ⟨p1, p2, p3, hq⟩ := side_facts (R := R) (C := C) (t := t) h5 h6
  have hlow : bits .and .i64 z 4294967295 = (((z % 4294967296).toNat : Nat) : Int) := by rw [low32]; omega
  generalize (z % 4294967296).toNat = Zz at *
  generalize oddZ Zz 16 = oz at *
  generalize evnZ Zz 16 = ez at *
  generalize spr (i % 65536).toNat (j % 65536).toNat 16 = S at *
  generalize sidN R C t = D at *
  generalize sizM R C t = Z at *
  generalize sidE R C t = E at *
  generalize D * D * t.toNat = B at *
  generalize D * D = A at *
  have dD : ((D : Int) != (D : Int)) = false := by simp
  have dZ : ((Z : Int) != (Z : Int)) = false := by simp
  have dE : (E != E) = false := by simp
  have dS : ((S : Int) == (S : Int)) = true := by simp
  have dQ : ((Zz : Int) == (Zz : Int)) = true := by simp
  cases hok : idxOK i j t
  · have H : ¬ (0 ≤ i ∧ i ≤ 65535 ∧ 0 ≤ j ∧ j ≤ 65535 ∧ 1 ≤ t ∧ t ≤ 8) := of_decide_eq_false hok
    rw [show plZ i j t = -1 by unfold plZ; rw [hok]; rfl] at hX
    have hway : i < 0 ∨ (¬ i < 0 ∧ 65536 ≤ i) ∨ (¬ i < 0 ∧ ¬ 65536 ≤ i ∧ j < 0) ∨ (¬ i < 0 ∧ ¬ 65536 ≤ i ∧ ¬ j < 0 ∧ 65536 ≤ j) ∨ (¬ i < 0 ∧ ¬ 65536 ≤ i ∧ ¬ j < 0 ∧ ¬ 65536 ≤ j ∧ t < 1) ∨ (¬ i < 0 ∧ ¬ 65536 ≤ i ∧ ¬ j < 0 ∧ ¬ 65536 ≤ j ∧ ¬ t < 1 ∧ 8 < t) := by omega
    clear H hok h1 h2 h3 h4 h5 h6
    rcases hq with ⟨rfl, hD⟩ | ⟨rfl, rfl, rfl⟩ <;> rcases hway with h | ⟨h1, h2⟩ | ⟨h1, h2, h3⟩ | ⟨h1, h2, h3, h4⟩ | ⟨h1, h2, h3, h4, h5⟩ | ⟨h1, h2, h3, h4, h5, h6⟩
    all_goals
      go_enter Try.func8, Try.ntmps8
      go_wp2_with fail
      refine (hal _).mono ?_
      rintro e w1 ⟨rfl, b1⟩
      clear hal
      go_wp2_with fail
      refine (hS _).mono ?_
      rintro e w2 ⟨rfl, rfl⟩
      clear hS
      go_wp2_with fail
      refine (hZ _).mono ?_
      rintro e w2 ⟨rfl, rfl⟩
      clear hZ
      go_wp2_with fail
      refine (hL _).mono ?_
      rintro e w2 ⟨rfl, rfl⟩
      clear hL
      go_wp2_with fail
      refine (hA _).mono ?_
      rintro e w2 ⟨rfl, rfl⟩
      clear hA
      go_wp2_with fail
      refine (hI _).mono ?_
      rintro e w2 ⟨rfl, rfl⟩
      clear hI
      go_wp2_with fail
      refine (hP _).mono ?_
      rintro e w2 ⟨rfl, rfl⟩
      clear hP
      go_wp2_with fail
      refine (hX _).mono ?_
      rintro e w2 ⟨rfl, b2⟩
      clear hX
      go_wp2_with fail
      refine (hB _).mono ?_
      rintro e w3 ⟨rfl, rfl⟩
      clear hB
      go_wp2
      go_ret
      exact ⟨rfl, below_both b1 b2⟩
  · obtain ⟨a, b, c, rfl, rfl, rfl, k1, k2, k3, k4⟩ := idxOK_nat hok
    rw [show plZ a b c = ((plc a b c : Nat) : Int) by unfold plZ; rw [hok]; rfl] at hX
    have q1 : (a : Int).tdiv (c : Int) = ((a / c : Nat) : Int) := Int.ofNat_tdiv a c
    have q2 : (b : Int).tdiv (c : Int) = ((b / c : Nat) : Int) := Int.ofNat_tdiv b c
    have r1 : (a : Int).tmod (c : Int) = ((a % c : Nat) : Int) := Int.ofNat_tmod a c
    have r2 : (b : Int).tmod (c : Int) = ((b % c : Nat) : Int) := Int.ofNat_tmod b c
    have d1 : a / c ≤ a := Nat.div_le_self _ _
    have d2 : b / c ≤ b := Nat.div_le_self _ _
    have m1 : a % c < c := Nat.mod_lt _ k3
    have m2 : b % c < c := Nat.mod_lt _ k3
    have hin : ∀ w, Calls Try.prog 34 #[.int .i64 ((a / c : Nat) : Int), .int .i64 ((b / c : Nat) : Int)] w fun e W' => e = .returned (.int .i64 ((spr (a / c) (b / c) 16 : Nat) : Int)) ∧ w = W' := fun w => by
      have h := l_spread (i := ((a / c : Nat) : Int)) (j := ((b / c : Nat) : Int)) (w := w)
      rwa [mod16 (Nat.lt_of_le_of_lt d1 k1), mod16 (Nat.lt_of_le_of_lt d2 k2)] at h
    have hSl := spr_lt (a / c) (b / c) 16
    rw [show (4 : Nat) ^ 16 = 4294967296 from rfl] at hSl
    have e0 : plc a b c = spr (a / c) (b / c) 16 * c * c + a % c * c + b % c := rfl
    generalize plc a b c = P at *
    generalize spr (a / c) (b / c) 16 = S2 at *
    generalize a / c = x at *
    generalize b / c = y at *
    generalize a % c = u at *
    generalize b % c = v at *
    have w0 : IntKind.i64.wrap (x : Int) = (x : Int) := IntWalk.i64_in _ (by omega)
    have w0' : IntKind.i64.wrap (y : Int) = (y : Int) := IntWalk.i64_in _ (by omega)
    have b1 : S2 * c ≤ S2 * 8 := Nat.mul_le_mul_left _ k4
    have w1 : IntKind.i64.wrap ((S2 : Int) * (c : Int)) = ((S2 * c : Nat) : Int) := by rw [← Int.natCast_mul]; exact IntWalk.i64_in _ (by omega)
    generalize S2 * c = U at *
    have b2 : U * c ≤ U * 8 := Nat.mul_le_mul_left _ k4
    have w2 : IntKind.i64.wrap ((U : Int) * (c : Int)) = ((U * c : Nat) : Int) := by rw [← Int.natCast_mul]; exact IntWalk.i64_in _ (by omega)
    generalize U * c = V at *
    have b3 : u * c ≤ 8 * 8 := Nat.mul_le_mul (by omega) k4
    have w3 : IntKind.i64.wrap ((u : Int) * (c : Int)) = ((u * c : Nat) : Int) := by rw [← Int.natCast_mul]; exact IntWalk.i64_in _ (by omega)
    generalize u * c = Y at *
    have w4 : IntKind.i64.wrap ((V : Int) + (Y : Int)) = ((V + Y : Nat) : Int) := by rw [IntWalk.i64_in _ (by omega)]; omega
    generalize hX' : V + Y = X at *
    have w5 : IntKind.i64.wrap ((X : Int) + (v : Int)) = (P : Int) := by rw [IntWalk.i64_in _ (by omega)]; omega
    have w6 : IntKind.i64.wrap (u : Int) = (u : Int) := IntWalk.i64_in _ (by omega)
    have w7 : IntKind.i64.wrap (v : Int) = (v : Int) := IntWalk.i64_in _ (by omega)
    have t0 : ((c : Int) == 0) = false := beq_eq_false_iff_ne.2 (by omega)
    have g1 : ¬ (a : Int) < 0 := by omega
    have g2 : ¬ 65536 ≤ (a : Int) := by omega
    have g3 : ¬ (b : Int) < 0 := by omega
    have g4 : ¬ 65536 ≤ (b : Int) := by omega
    have g5 : ¬ (c : Int) < 1 := by omega
    have g6 : ¬ 8 < (c : Int) := by omega
    have dP : ((P : Int) == (P : Int)) = true := by simp
    have HIN := Lib.hid hin
    clear e0 hX' b1 b2 b3 hSl d1 d2 m1 m2 hin hok h1 h2 h3 h4 h5 h6 k1 k2
    rcases hq with ⟨rfl, hD⟩ | ⟨rfl, rfl, rfl⟩
    all_goals
      go_enter Try.func8, Try.ntmps8
      go_wp2_with fail
      refine (hal _).mono ?_
      rintro e w1 ⟨rfl, b1⟩
      clear hal
      go_wp2_with fail
      go_quiet ((go_at_call 34; exact Calls.quiet_of_same ((HIN.out _).mono fun e W' ⟨h1, h2⟩ => ⟨h1, h2.symm⟩)))
      go_wp2_with fail
      refine (hS _).mono ?_
      rintro e w2 ⟨rfl, rfl⟩
      clear hS
      go_wp2_with fail
      refine (hZ _).mono ?_
      rintro e w2 ⟨rfl, rfl⟩
      clear hZ
      go_wp2_with fail
      refine (hL _).mono ?_
      rintro e w2 ⟨rfl, rfl⟩
      clear hL
      go_wp2_with fail
      refine (hA _).mono ?_
      rintro e w2 ⟨rfl, rfl⟩
      clear hA
      go_wp2_with fail
      refine (hI _).mono ?_
      rintro e w2 ⟨rfl, rfl⟩
      clear hI
      go_wp2_with fail
      refine (hP _).mono ?_
      rintro e w2 ⟨rfl, rfl⟩
      clear hP
      go_wp2_with fail
      refine (hX _).mono ?_
      rintro e w2 ⟨rfl, b2⟩
      clear hX
      go_wp2_with fail
      refine (hB _).mono ?_
      rintro e w3 ⟨rfl, rfl⟩
      clear hB
      go_wp2
      go_ret
      exact ⟨rfl, below_both (below_both b1 (below_drewN _ _ _)) b2⟩
end Go.Proofs.Ytaefalmabphadaa
