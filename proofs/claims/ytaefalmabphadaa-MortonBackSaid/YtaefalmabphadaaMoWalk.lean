/- morton: Interleave, Apart, Index. -/
import Derived.Test.YtaefalmabphadaaMoBits
namespace Go.Proofs.Ytaefalmabphadaa
open Go.RowKit Go.Shelf
set_option maxRecDepth 100000 in
set_option maxHeartbeats 4000000 in
theorem mo_inter {i j : Int} {w : World} (h1 : -9223372036854775808 ≤ i) (h2 : i ≤ 9223372036854775807) (h3 : -9223372036854775808 ≤ j) (h4 : j ≤ 9223372036854775807) :
    Calls Try.prog 39 #[.int .i64 i, .int .i64 j] w fun e W' => e = .returned (.int .i64 ((spr (i % 65536).toNat (j % 65536).toNat 16 : Nat) : Int)) ∧ w = W' := by
  have hbi := fun (k : Nat) (hk : k < 16) => bitZ i hk
  have hbj := fun (k : Nat) (hk : k < 16) => bitZ j hk
  generalize (i % 65536).toNat = I at *
  generalize (j % 65536).toNat = J at *
  have HBI := Lib.hid hbi
  have HBJ := Lib.hid hbj
  clear hbi hbj
  go_enter Try.func39, Try.ntmps39
  go_wp2
  go_loop [5, 7] (fun z b => ∃ k n : Nat, k ≤ 16 ∧ b = .int .i64 k ∧ z = .int .i64 n ∧ Hid (n = spr I J k)) (fun _ b => 16 - (intOf b).toNat)
  case atStart => exact ⟨0, 0, by omega, rfl, rfl, Lib.hid rfl⟩
  case round =>
    obtain ⟨k, n, hk, rfl, rfl, HN⟩ := hrel
    by_cases hlt : k < 16
    · have hs : IntKind.i64.wrap (2 * (k : Int)) = ((2 * k : Nat) : Int) := by rw [Int.natCast_mul]; exact IntWalk.i64_in _ (by omega)
      have hs1 : IntKind.i64.wrap (((2 * k : Nat) : Int) + 1) = ((2 * k + 1 : Nat) : Int) := by rw [IntWalk.i64_in _ (by omega)]; omega
      have HS : Hid (bits .or .i64 (bits .or .i64 (n : Int) (wrap64 (bits .and .i64 (j / 2 ^ k) 1 * 2 ^ (2 * k)))) (wrap64 (bits .and .i64 (i / 2 ^ k) 1 * 2 ^ (2 * k + 1))) = ((spr I J (k + 1) : Nat) : Int)) := Lib.hid (by
        rw [← IntWalk.i64_left, ← IntWalk.i64_left, and1, and1, HBI.out k hlt, HBJ.out k hlt, HN.out]
        exact spr_or hlt)
      go_wp2
      exact ⟨⟨k + 1, spr I J (k + 1), by omega, by simp, by rw [← HS.out], Lib.hid rfl⟩, by simp [intOf]; omega⟩
    · have hge : decide ((k : Int) < 16) = false := decide_eq_false (by omega)
      go_wp2
      go_ret
      exact ⟨by rw [HN.out, show k = 16 by omega]; rfl, rfl⟩
def inB (n lo hi : Int) : Bool := decide (lo ≤ n ∧ n ≤ hi)
theorem mo_from1 {n most : Int} {w : World} : Calls Try.prog 66 #[.int .i64 n, .int .i64 most] w fun e W' => e = .returned (.bool (inB n 1 most)) ∧ w = W' := by
  by_cases k1 : 1 ≤ n
  · by_cases k2 : n ≤ most
    · rw [show inB n 1 most = true from decide_eq_true ⟨k1, k2⟩]
      go_enter Try.func66, Try.ntmps66
      go_wp2
      go_ret
      exact ⟨rfl, rfl⟩
    · rw [show inB n 1 most = false from decide_eq_false (fun h => k2 h.2)]
      go_enter Try.func66, Try.ntmps66
      go_wp2
      go_ret
      exact ⟨rfl, rfl⟩
  · rw [show inB n 1 most = false from decide_eq_false (fun h => k1 h.1)]
    go_enter Try.func66, Try.ntmps66
    go_wp2
    go_ret
    exact ⟨rfl, rfl⟩
theorem mo_half {n : Int} {w : World} : Calls Try.prog 67 #[.int .i64 n] w fun e W' => e = .returned (.bool (inB n 0 65535)) ∧ w = W' := by
  by_cases k1 : 0 ≤ n
  · by_cases k2 : n < 65536
    · rw [show inB n 0 65535 = true from decide_eq_true ⟨k1, by omega⟩]
      go_enter Try.func67, Try.ntmps67
      go_wp2
      go_ret
      exact ⟨rfl, rfl⟩
    · rw [show inB n 0 65535 = false from decide_eq_false (fun h => k2 (by omega))]
      go_enter Try.func67, Try.ntmps67
      go_wp2
      go_ret
      exact ⟨rfl, rfl⟩
  · rw [show inB n 0 65535 = false from decide_eq_false (fun h => k1 h.1)]
    go_enter Try.func67, Try.ntmps67
    go_wp2
    go_ret
    exact ⟨rfl, rfl⟩
def idxOK (i j t : Int) : Bool := decide (0 ≤ i ∧ i ≤ 65535 ∧ 0 ≤ j ∧ j ≤ 65535 ∧ 1 ≤ t ∧ t ≤ 8)
theorem mo_index_no {i j t : Int} {w : World} (h : idxOK i j t = false) : Calls Try.prog 40 #[.int .i64 i, .int .i64 j, .int .i64 t] w fun e W' => e = .returned (.int .i64 (-1)) ∧ w = W' := by
  have H : ¬ (0 ≤ i ∧ i ≤ 65535 ∧ 0 ≤ j ∧ j ≤ 65535 ∧ 1 ≤ t ∧ t ≤ 8) := of_decide_eq_false h
  clear h
  cases k1 : inB i 0 65535
  · clear H
    go_enter Try.func40, Try.ntmps40
    go_wp2_with (first | (go_at_call 67; refine mo_half.mono ?_; rintro e w1 ⟨rfl, rfl⟩) | (go_at_call 66; refine mo_from1.mono ?_; rintro e w1 ⟨rfl, rfl⟩))
    go_ret
    exact ⟨rfl, rfl⟩
  cases k2 : inB j 0 65535
  · clear H
    go_enter Try.func40, Try.ntmps40
    go_wp2_with (first | (go_at_call 67; refine mo_half.mono ?_; rintro e w1 ⟨rfl, rfl⟩) | (go_at_call 66; refine mo_from1.mono ?_; rintro e w1 ⟨rfl, rfl⟩))
    go_ret
    exact ⟨rfl, rfl⟩
  have k3 : inB t 1 8 = false := decide_eq_false (fun q => H ⟨(of_decide_eq_true k1).1, (of_decide_eq_true k1).2, (of_decide_eq_true k2).1, (of_decide_eq_true k2).2, q.1, q.2⟩)
  clear H
  go_enter Try.func40, Try.ntmps40
  go_wp2_with (first | (go_at_call 67; refine mo_half.mono ?_; rintro e w1 ⟨rfl, rfl⟩) | (go_at_call 66; refine mo_from1.mono ?_; rintro e w1 ⟨rfl, rfl⟩))
  go_ret
  exact ⟨rfl, rfl⟩
theorem mo_interN {i j : Nat} {w : World} (hi : i < 65536) (hj : j < 65536) : Calls Try.prog 39 #[.int .i64 (i : Int), .int .i64 (j : Int)] w fun e W' => e = .returned (.int .i64 ((spr i j 16 : Nat) : Int)) ∧ w = W' := by
  have h := mo_inter (i := (i : Int)) (j := (j : Int)) (w := w) (by omega) (by omega) (by omega) (by omega)
  rwa [show ((i : Int) % 65536).toNat = i by omega, show ((j : Int) % 65536).toNat = j by omega] at h
set_option maxRecDepth 100000 in
set_option maxHeartbeats 4000000 in
theorem mo_index {i j t : Nat} {w : World} (hi : i < 65536) (hj : j < 65536) (ht : 1 ≤ t) (h8 : t ≤ 8) : Calls Try.prog 40 #[.int .i64 (i : Int), .int .i64 (j : Int), .int .i64 (t : Int)] w fun e W' => e = .returned (.int .i64 ((plc i j t : Nat) : Int)) ∧ ∃ n, W' = w.drewN n := by
  have k1 : inB (i : Int) 0 65535 = true := decide_eq_true (by omega)
  have k2 : inB (j : Int) 0 65535 = true := decide_eq_true (by omega)
  have k3 : inB (t : Int) 1 8 = true := decide_eq_true (by omega)
  have q1 : (i : Int).tdiv (t : Int) = ((i / t : Nat) : Int) := Int.ofNat_tdiv i t
  have q2 : (j : Int).tdiv (t : Int) = ((j / t : Nat) : Int) := Int.ofNat_tdiv j t
  have r1 : (i : Int).tmod (t : Int) = ((i % t : Nat) : Int) := Int.ofNat_tmod i t
  have r2 : (j : Int).tmod (t : Int) = ((j % t : Nat) : Int) := Int.ofNat_tmod j t
  have d1 : i / t ≤ i := Nat.div_le_self _ _
  have d2 : j / t ≤ j := Nat.div_le_self _ _
  have m1 : i % t < t := Nat.mod_lt _ ht
  have m2 : j % t < t := Nat.mod_lt _ ht
  have hin := fun w => mo_interN (i := i / t) (j := j / t) (w := w) (by omega) (by omega)
  have hS := spr_lt (i / t) (j / t) 16
  rw [show (4 : Nat) ^ 16 = 4294967296 from rfl] at hS
  have e0 : plc i j t = spr (i / t) (j / t) 16 * t * t + i % t * t + j % t := rfl
  generalize plc i j t = P at *
  generalize spr (i / t) (j / t) 16 = S at *
  generalize i / t = a at *
  generalize j / t = b at *
  generalize i % t = c at *
  generalize j % t = d at *
  have w0 : IntKind.i64.wrap (a : Int) = (a : Int) := IntWalk.i64_in _ (by omega)
  have w0' : IntKind.i64.wrap (b : Int) = (b : Int) := IntWalk.i64_in _ (by omega)
  have b1 : S * t ≤ S * 8 := Nat.mul_le_mul_left _ h8
  have w1 : IntKind.i64.wrap ((S : Int) * (t : Int)) = ((S * t : Nat) : Int) := by rw [← Int.natCast_mul]; exact IntWalk.i64_in _ (by omega)
  generalize S * t = U at *
  have b2 : U * t ≤ U * 8 := Nat.mul_le_mul_left _ h8
  have w2 : IntKind.i64.wrap ((U : Int) * (t : Int)) = ((U * t : Nat) : Int) := by rw [← Int.natCast_mul]; exact IntWalk.i64_in _ (by omega)
  generalize U * t = V at *
  have b3 : c * t ≤ 8 * 8 := Nat.mul_le_mul (by omega) h8
  have w3 : IntKind.i64.wrap ((c : Int) * (t : Int)) = ((c * t : Nat) : Int) := by rw [← Int.natCast_mul]; exact IntWalk.i64_in _ (by omega)
  generalize c * t = Y at *
  have w4 : IntKind.i64.wrap ((V : Int) + (Y : Int)) = ((V + Y : Nat) : Int) := by rw [IntWalk.i64_in _ (by omega)]; omega
  generalize hX : V + Y = X at *
  have w5 : IntKind.i64.wrap ((X : Int) + (d : Int)) = ((X + d : Nat) : Int) := by rw [IntWalk.i64_in _ (by omega)]; omega
  have w6 : IntKind.i64.wrap (c : Int) = (c : Int) := IntWalk.i64_in _ (by omega)
  have w7 : IntKind.i64.wrap (d : Int) = (d : Int) := IntWalk.i64_in _ (by omega)
  have t0 : ((t : Int) == 0) = false := beq_eq_false_iff_ne.2 (by omega)
  have HE := Lib.hid e0
  have HIN := Lib.hid hin
  clear e0 hX b1 b2 b3 hS d1 d2 m1 m2 hin
  go_enter Try.func40, Try.ntmps40
  go_wp2_with (first | (go_at_call 67; refine mo_half.mono ?_; rintro e w1 ⟨rfl, rfl⟩) | (go_at_call 66; refine mo_from1.mono ?_; rintro e w1 ⟨rfl, rfl⟩))
  go_quiet ((go_at_call 39; exact Calls.quiet_of_same ((HIN.out _).mono fun e W' ⟨h1, h2⟩ => ⟨h1, h2.symm⟩)))
  go_wp2
  go_ret
  exact ⟨by rw [HE.out]; rfl, _, rfl⟩
end Go.Proofs.Ytaefalmabphadaa
