/- vernierlaw10: alive, FsqrtTells, FsqrtBack. -/
import Derived.Test.YtgobclmihppopaaFqSpec
namespace Go.Proofs.Ytgobclmihppopaa
open Go.RowKit Go.Shelf
theorem rsqrt_four : rsqrt 4616189618054758400 0 = (4611686018427387904, 0) := by
  have a2 : sig 4611686018427387904 = 4503599627370496 := by decide
  have a3 : xpo 4611686018427387904 = -51 := by decide
  have p2 : sig 4616189618054758400 = 4503599627370496 := by decide
  have p3 : xpo 4616189618054758400 = -50 := by decide
  exact rsqrt_square (u := 0) (v := 52) (by decide) (by decide) (by decide) (by decide) (by decide) (by rw [a2, p2]) (by rw [a3, p3]; rfl)
theorem qalive (w : World) : Calls Try.prog 35 #[] w fun e W' => e = .returned (.bool true) ∧ Below w.heap.size w W' := by
  have h := fsqrt_sqrt (a := 4616189618054758400) (mode := 0) (w := w) (by omega)
  rw [rsqrt_four] at h
  go_enter Try.func35, Try.ntmps35
  go_wp2_with fail
  refine Calls.mono h ?_
  rintro e w1 ⟨rfl, b1⟩
  go_wp2
  go_ret
  exact ⟨rfl, b1⟩
set_option maxRecDepth 100000 in
set_option maxHeartbeats 4000000 in
theorem fsqrtTells_calls {a : Nat} {mode : Int} {w : World} (ha : (a : Int) ≤ 18446744073709551615) :
    Calls Try.prog 14 #[.int .u64 (a : Int), .int .i64 mode] w fun e W' => e = .returned (.bool true) ∧ Below w.heap.size w W' := by
  have h1 := fun w => fsqrt_sqrt (mode := mode) (w := w) ha
  have h2 := fun w => sqrt6 (mode := mode) (w := w) ha
  generalize rsqrt a mode = p at *
  obtain ⟨x, f⟩ := p
  go_enter Try.func14, Try.ntmps14
  go_wp2_with fail
  refine (h1 _).mono ?_
  rintro e w1 ⟨rfl, b1⟩
  go_wp2_with fail
  refine (h2 _).mono ?_
  rintro e w2 ⟨rfl, b2⟩
  replace b1 := below_both b1 b2
  clear b2
  go_wp2_with fail
  refine (qalive _).mono ?_
  rintro e w3 ⟨rfl, b2⟩
  replace b1 := below_both b1 b2
  clear b2
  go_wp2
  all_goals (go_ret; exact ⟨rfl, b1⟩)
theorem clear_sign {a : Nat} (ha : (a : Int) ≤ 18446744073709551615) : bits .andNot .u64 (a : Int) 9223372036854775808 = ((a % 9223372036854775808 : Nat) : Int) := by
  have h1 : (BitVec.ofInt 64 (a : Int)).toNat = a := by
    rw [BitVec.ofInt_natCast, BitVec.toNat_ofNat]; exact Nat.mod_eq_of_lt (by omega)
  have h2 : (~~~ BitVec.ofInt 64 9223372036854775808).toNat = 2 ^ 63 - 1 := by decide
  show IntKind.u64.wrap ((BitVec.ofInt 64 (a : Int) &&& ~~~ BitVec.ofInt 64 9223372036854775808).toNat : Int) = _
  rw [BitVec.toNat_and, h1, h2, Nat.and_two_pow_sub_one_eq_mod, IntKind.wrap_u64]
  omega
theorem back_num {c p : Nat} {mode : Int} (hc : c < 9223372036854775808) (h1 : cls c ≤ 1) (h : rmul c c 0 = (p, 0)) : rsqrt p mode = (c, 0) := by
  have hn : neg6 c = false := decide_eq_false (by omega)
  have hne : (neg6 c != neg6 c) = false := by rw [hn]; rfl
  unfold rmul at h
  rw [hne, if_neg (by omega), if_neg (by omega), if_neg (by omega)] at h
  by_cases h0 : cls c = 0
  · rw [if_pos (.inl h0)] at h
    obtain ⟨z1, _⟩ := sig_zero (by omega) ((cls_zero_iff h1).1 h0)
    rw [hn] at z1
    obtain rfl : p = sgn false := (congrArg Prod.fst h).symm
    rw [z1]
    unfold rsqrt
    rw [show cls (sgn false) = 0 from by decide, if_neg (by decide), if_pos rfl]
  · rw [if_neg (by omega)] at h
    have hsc := sig_pos (show cls c = 1 by omega)
    have hnp : 0 < sig c * sig c := Nat.mul_pos hsc hsc
    obtain ⟨k1, k2, k3, k4⟩ := rnd_exact hnp h
    obtain ⟨k5, k6⟩ := rnd_neg hnp (by decide) h
    have hz : sig p ≠ 0 := by
      intro hz
      rw [hz, Nat.zero_mul] at k1
      have : 0 < upper (sig c * sig c) (xpo c + xpo c - xpo p) := Nat.mul_pos hnp (pw_pos _)
      omega
    have hc1 := cls_of_fe k2
    have hne : cls p ≠ 0 := fun hh => hz ((cls_zero_iff hc1).1 hh)
    unfold upper lower pw at k1
    rw [Nat.one_mul] at k1
    exact rsqrt_square (by omega) hn (by omega) k5 (by omega) k1 (by omega)
end Go.Proofs.Ytgobclmihppopaa
