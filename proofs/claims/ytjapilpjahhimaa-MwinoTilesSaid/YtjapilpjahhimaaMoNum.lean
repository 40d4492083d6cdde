/- Interleaved bits, tiles' places: plain numbers. No program is named here. -/
import Derived.Test.YtjapilpjahhimaaNum
import Derived.Test.YtjapilpjahhimaaShMake
import Derived.Laws.Bits64
import Derived.Deep.RegionWith
namespace Go.Proofs.Ytjapilpjahhimaa

/-- the b-th pair of bits -/
def pr2 (i j b : Nat) : Nat := j / 2 ^ b % 2 + 2 * (i / 2 ^ b % 2)
/-- the first n pairs, each at a place of its own -/
def spr (i j : Nat) : Nat → Nat
  | 0 => 0
  | n + 1 => spr i j n + 4 ^ n * pr2 i j n
theorem pr2_lt (i j b : Nat) : pr2 i j b < 4 := by unfold pr2; omega
theorem spr_lt (i j n : Nat) : spr i j n < 4 ^ n := by
  induction n with
  | zero => exact Nat.one_pos
  | succ n ih =>
    have h := pr2_lt i j n
    have h2 := Nat.mul_le_mul_left (4 ^ n) (show pr2 i j n ≤ 3 by omega)
    show spr i j n + 4 ^ n * pr2 i j n < 4 ^ (n + 1)
    rw [Nat.pow_succ]
    omega
/-- which pairs they are made of -/
theorem spr_same {i j k l n : Nat} (h : spr i j n = spr k l n) : ∀ b, b < n → pr2 i j b = pr2 k l b := by
  induction n with
  | zero => intro b hb; omega
  | succ n ih =>
    have hp : 0 < 4 ^ n := Nat.pow_pos (by decide)
    have h1 : spr i j n + 4 ^ n * pr2 i j n = spr k l n + 4 ^ n * pr2 k l n := h
    have a1 := spr_lt i j n
    have a2 := spr_lt k l n
    have d1 : (spr i j n + 4 ^ n * pr2 i j n) % 4 ^ n = spr i j n := by rw [Nat.add_mul_mod_self_left, Nat.mod_eq_of_lt a1]
    have d2 : (spr k l n + 4 ^ n * pr2 k l n) % 4 ^ n = spr k l n := by rw [Nat.add_mul_mod_self_left, Nat.mod_eq_of_lt a2]
    have e1 : spr i j n = spr k l n := by rw [← d1, ← d2, h1]
    have e2 : pr2 i j n = pr2 k l n := by
      rw [e1] at h1
      exact Nat.eq_of_mul_eq_mul_left hp (Nat.add_left_cancel h1)
    intro b hb
    by_cases hc : b = n
    · rw [hc]; exact e2
    · exact ih e1 b (by omega)
/-- a number below 2^n, by its bits -/
theorem bits_same {n : Nat} : ∀ {i k : Nat}, i < 2 ^ n → k < 2 ^ n → (∀ b, b < n → i / 2 ^ b % 2 = k / 2 ^ b % 2) → i = k := by
  induction n with
  | zero => intro i k hi hk _; rw [Nat.pow_zero] at hi hk; omega
  | succ n ih =>
    intro i k hi hk h
    rw [Nat.pow_succ] at hi hk
    have h0 := h 0 (by omega)
    rw [Nat.pow_zero, Nat.div_one, Nat.div_one] at h0
    have hd : i / 2 = k / 2 := by
      refine ih (by omega) (by omega) fun b hb => ?_
      have := h (b + 1) (by omega)
      rw [Nat.pow_succ, Nat.mul_comm, ← Nat.div_div_eq_div_mul, ← Nat.div_div_eq_div_mul] at this
      exact this
    omega
theorem spr_inj {i j k l n : Nat} (hi : i < 2 ^ n) (hj : j < 2 ^ n) (hk : k < 2 ^ n) (hl : l < 2 ^ n) (h : spr i j n = spr k l n) : i = k ∧ j = l := by
  have hb := spr_same h
  refine ⟨bits_same hi hk fun b hbn => ?_, bits_same hj hl fun b hbn => ?_⟩
  · have := hb b hbn
    unfold pr2 at this
    omega
  · have := hb b hbn
    unfold pr2 at this
    omega
/-- a place's number -/
def plc (i j t : Nat) : Nat := spr (i / t) (j / t) 16 * t * t + i % t * t + j % t
theorem plc_split {s x y t : Nat} (hx : x < t) (hy : y < t) : (s * t * t + x * t + y) % t = y ∧ (s * t * t + x * t + y) / t % t = x ∧ (s * t * t + x * t + y) / t / t = s := by
  have ht : 0 < t := by omega
  have e : s * t * t + x * t + y = (s * t + x) * t + y := by rw [Nat.add_mul]
  have d1 : ((s * t + x) * t + y) / t = s * t + x := by
    rw [Nat.mul_comm, Nat.mul_add_div ht, Nat.div_eq_of_lt hy, Nat.add_zero]
  refine ⟨?_, ?_, ?_⟩
  · rw [e, Nat.mul_comm, Nat.mul_add_mod, Nat.mod_eq_of_lt hy]
  · rw [e, d1, Nat.mul_comm, Nat.mul_add_mod, Nat.mod_eq_of_lt hx]
  · rw [e, d1, Nat.mul_comm, Nat.mul_add_div ht, Nat.div_eq_of_lt hx, Nat.add_zero]
/-- unlike places have unlike numbers -/
theorem plc_inj {i j k l t : Nat} (ht : 0 < t) (hi : i < 65536) (hj : j < 65536) (hk : k < 65536) (hl : l < 65536) (h : plc i j t = plc k l t) : i = k ∧ j = l := by
  unfold plc at h
  obtain ⟨a1, a2, a3⟩ := plc_split (s := spr (i / t) (j / t) 16) (Nat.mod_lt i ht) (Nat.mod_lt j ht)
  obtain ⟨b1, b2, b3⟩ := plc_split (s := spr (k / t) (l / t) 16) (Nat.mod_lt k ht) (Nat.mod_lt l ht)
  rw [h] at a1 a2 a3
  have hlt : ∀ x, x < 65536 → x / t < 2 ^ 16 := fun x hx => Nat.lt_of_le_of_lt (Nat.div_le_self _ _) hx
  obtain ⟨c1, c2⟩ := spr_inj (hlt i hi) (hlt j hj) (hlt k hk) (hlt l hl) (a3.symm.trans b3)
  have e1 := a1.symm.trans b1
  have e2 := a2.symm.trans b2
  refine ⟨?_, ?_⟩
  · rw [← Nat.div_add_mod i t, ← Nat.div_add_mod k t, c1, e2]
  · rw [← Nat.div_add_mod j t, ← Nat.div_add_mod l t, c2, e1]
end Go.Proofs.Ytjapilpjahhimaa

/- Bits of ints: plain numbers. -/
namespace Go.Proofs.Ytjapilpjahhimaa
open Go.RowKit Go.Shelf
theorem and1 (X : Int) : bits .and .i64 X 1 = X % 2 := by
  have h1 : ((BitVec.ofInt 64 X).toNat : Int) = X % 18446744073709551616 := by
    rw [BitVec.toNat_ofInt]
    have h := Int.emod_nonneg X (show (2 : Int) ^ 64 ≠ 0 by decide)
    exact Int.toNat_of_nonneg h
  have h2 : (BitVec.ofInt 64 (1 : Int)).toNat = 1 := by decide
  show IntKind.i64.wrap ((BitVec.ofInt 64 X &&& BitVec.ofInt 64 1).toNat : Int) = _
  rw [BitVec.toNat_and, h2, Nat.and_one_is_mod, IntKind.wrap_i64]
  generalize (BitVec.ofInt 64 X).toNat = t at *
  omega
theorem toNat_i64 {a : Nat} (ha : a < 18446744073709551616) : (BitVec.ofInt 64 (a : Int)).toNat = a := by
  rw [BitVec.toNat_ofInt]
  have h : (a : Int) % ((2 ^ 64 : Nat) : Int) = a := by
    rw [show ((2 ^ 64 : Nat) : Int) = 18446744073709551616 from rfl]; omega
  rw [h]; rfl
theorem or_i64 {a b : Nat} (ha : a < 9223372036854775808) (hb : b < 9223372036854775808) : bits .or .i64 (a : Int) (b : Int) = ((a ||| b : Nat) : Int) := by
  have h : a ||| b < 2 ^ 63 := Nat.or_lt_two_pow ha hb
  show IntKind.i64.wrap ((BitVec.ofInt 64 (a : Int) ||| BitVec.ofInt 64 (b : Int)).toNat : Int) = _
  rw [BitVec.toNat_or, toNat_i64 (by omega), toNat_i64 (by omega), IntKind.wrap_i64]
  generalize a ||| b = t at *
  omega
theorem and_i64 {a b : Nat} (ha : a < 9223372036854775808) (hb : b < 9223372036854775808) : bits .and .i64 (a : Int) (b : Int) = ((a &&& b : Nat) : Int) := by
  have h : a &&& b ≤ a := Nat.and_le_left
  show IntKind.i64.wrap ((BitVec.ofInt 64 (a : Int) &&& BitVec.ofInt 64 (b : Int)).toNat : Int) = _
  rw [BitVec.toNat_and, toNat_i64 (by omega), toNat_i64 (by omega), IntKind.wrap_i64]
  generalize a &&& b = t at *
  omega
/-- one bit set above a number -/
theorem or_bit {n p c : Nat} (hn : n < 2 ^ p) (hp : p ≤ 40) (hc : c ≤ 1) : bits .or .i64 (n : Int) (IntKind.i64.wrap ((c : Int) * 2 ^ p)) = ((n + 2 ^ p * c : Nat) : Int) := by
  have h40 : 2 ^ p ≤ 2 ^ 40 := Nat.pow_le_pow_right (by decide) hp
  have hm : 2 ^ p * c ≤ 2 ^ p * 1 := Nat.mul_le_mul_left _ hc
  have e1 : (c : Int) * 2 ^ p = ((2 ^ p * c : Nat) : Int) := by rw [Int.natCast_mul, Int.natCast_pow, Int.mul_comm]; rfl
  have e2 := Nat.two_pow_add_eq_or_of_lt hn c
  rw [e1, IntWalk.i64_in _ (by omega), or_i64 (by omega) (by omega), Nat.add_comm, e2, Nat.or_comm]
/-- a bit of an int, of its lowest sixteen -/
theorem bitZ (j : Int) {k : Nat} (hk : k < 16) : j / 2 ^ k % 2 = (((j % 65536).toNat / 2 ^ k % 2 : Nat) : Int) := by
  obtain rfl | rfl | rfl | rfl | rfl | rfl | rfl | rfl | rfl | rfl | rfl | rfl | rfl | rfl | rfl | rfl : k = 0 ∨ k = 1 ∨ k = 2 ∨ k = 3 ∨ k = 4 ∨ k = 5 ∨ k = 6 ∨ k = 7 ∨ k = 8 ∨ k = 9 ∨ k = 10 ∨ k = 11 ∨ k = 12 ∨ k = 13 ∨ k = 14 ∨ k = 15 := by omega
  all_goals omega
theorem spr_or {i j k : Nat} (hk : k < 16) : bits .or .i64 (bits .or .i64 ((spr i j k : Nat) : Int) (IntKind.i64.wrap (((j / 2 ^ k % 2 : Nat) : Int) * 2 ^ (2 * k)))) (IntKind.i64.wrap (((i / 2 ^ k % 2 : Nat) : Int) * 2 ^ (2 * k + 1))) = ((spr i j (k + 1) : Nat) : Int) := by
  have h4 : (4 : Nat) ^ k = 2 ^ (2 * k) := by rw [Nat.pow_mul]
  have hlt := spr_lt i j k
  rw [h4] at hlt
  have hj : j / 2 ^ k % 2 ≤ 1 := by omega
  have hi : i / 2 ^ k % 2 ≤ 1 := by omega
  have hm : 2 ^ (2 * k) * (j / 2 ^ k % 2) ≤ 2 ^ (2 * k) * 1 := Nat.mul_le_mul_left _ hj
  rw [or_bit hlt (by omega) hj, or_bit (by rw [Nat.pow_succ]; omega) (by omega) hi]
  congr 1
  show _ = spr i j k + 4 ^ k * (j / 2 ^ k % 2 + 2 * (i / 2 ^ k % 2))
  rw [h4, Nat.mul_add, Nat.pow_succ, Nat.add_assoc, ← Nat.mul_assoc]
end Go.Proofs.Ytjapilpjahhimaa

/- morton: Interleave, Apart, Index. -/
namespace Go.Proofs.Ytjapilpjahhimaa
open Go.RowKit Go.Shelf
set_option maxRecDepth 100000 in
set_option maxHeartbeats 4000000 in
theorem mo_inter {i j : Int} {w : World} (_h1 : -9223372036854775808 ≤ i) (_h2 : i ≤ 9223372036854775807) (_h3 : -9223372036854775808 ≤ j) (_h4 : j ≤ 9223372036854775807) :
    Calls Try.prog 88 #[.int .i64 i, .int .i64 j] w fun e W' => e = .returned (.int .i64 ((spr (i % 65536).toNat (j % 65536).toNat 16 : Nat) : Int)) ∧ w = W' := by
  have hbi := fun (k : Nat) (hk : k < 16) => bitZ i hk
  have hbj := fun (k : Nat) (hk : k < 16) => bitZ j hk
  generalize (i % 65536).toNat = I at *
  generalize (j % 65536).toNat = J at *
  have HBI := Lib.hid hbi
  have HBJ := Lib.hid hbj
  clear hbi hbj
  go_enter Try.func88, Try.ntmps88
  go_wp2
  go_loop [5, 7] (fun z b => ∃ k n : Nat, k ≤ 16 ∧ b = .int .i64 k ∧ z = .int .i64 n ∧ Hid (n = spr I J k)) (fun _ b => 16 - (intOf b).toNat)
  case atStart => exact ⟨0, 0, by omega, rfl, rfl, Lib.hid rfl⟩
  case round =>
    obtain ⟨k, n, hk, rfl, rfl, HN⟩ := hrel
    by_cases hlt : k < 16
    · have hs : IntKind.i64.wrap (2 * (k : Int)) = ((2 * k : Nat) : Int) := by rw [Int.natCast_mul]; exact IntWalk.i64_in _ (by omega)
      have hs1 : IntKind.i64.wrap (((2 * k : Nat) : Int) + 1) = ((2 * k + 1 : Nat) : Int) := by rw [IntWalk.i64_in _ (by omega)]; omega
      have HS : Hid (bits .or .i64 (bits .or .i64 (n : Int) (wrap64 (bits .and .i64 (j / 2 ^ k) 1 * 2 ^ (2 * k)))) (wrap64 (bits .and .i64 (i / 2 ^ k) 1 * 2 ^ (2 * k + 1))) = ((spr I J (k + 1) : Nat) : Int)) := Lib.hid (by
        rw [← IntWalk.i64_left, ← IntWalk.i64_left, and1, and1, HBI.out k hlt, HBJ.out k hlt, HN.out]
        exact spr_or hlt)
      go_wp2
      exact ⟨⟨k + 1, spr I J (k + 1), by omega, by simp, by rw [← HS.out], Lib.hid rfl⟩, by simp [intOf]; omega⟩
    · have hge : decide ((k : Int) < 16) = false := decide_eq_false (by omega)
      go_wp2
      go_ret
      exact ⟨by rw [HN.out, show k = 16 by omega]; rfl, rfl⟩
def inB (n lo hi : Int) : Bool := decide (lo ≤ n ∧ n ≤ hi)
theorem mo_from1 {n most : Int} {w : World} : Calls Try.prog 87 #[.int .i64 n, .int .i64 most] w fun e W' => e = .returned (.bool (inB n 1 most)) ∧ w = W' := by
  by_cases k1 : 1 ≤ n
  · by_cases k2 : n ≤ most
    · rw [show inB n 1 most = true from decide_eq_true ⟨k1, k2⟩]
      go_enter Try.func87, Try.ntmps87
      go_wp2
      go_ret
      exact ⟨rfl, rfl⟩
    · rw [show inB n 1 most = false from decide_eq_false (fun h => k2 h.2)]
      go_enter Try.func87, Try.ntmps87
      go_wp2
      go_ret
      exact ⟨rfl, rfl⟩
  · rw [show inB n 1 most = false from decide_eq_false (fun h => k1 h.1)]
    go_enter Try.func87, Try.ntmps87
    go_wp2
    go_ret
    exact ⟨rfl, rfl⟩
theorem mo_half {n : Int} {w : World} : Calls Try.prog 86 #[.int .i64 n] w fun e W' => e = .returned (.bool (inB n 0 65535)) ∧ w = W' := by
  by_cases k1 : 0 ≤ n
  · by_cases k2 : n < 65536
    · rw [show inB n 0 65535 = true from decide_eq_true ⟨k1, by omega⟩]
      go_enter Try.func86, Try.ntmps86
      go_wp2
      go_ret
      exact ⟨rfl, rfl⟩
    · rw [show inB n 0 65535 = false from decide_eq_false (fun h => k2 (by omega))]
      go_enter Try.func86, Try.ntmps86
      go_wp2
      go_ret
      exact ⟨rfl, rfl⟩
  · rw [show inB n 0 65535 = false from decide_eq_false (fun h => k1 h.1)]
    go_enter Try.func86, Try.ntmps86
    go_wp2
    go_ret
    exact ⟨rfl, rfl⟩
def idxOK (i j t : Int) : Bool := decide (0 ≤ i ∧ i ≤ 65535 ∧ 0 ≤ j ∧ j ≤ 65535 ∧ 1 ≤ t ∧ t ≤ 8)
theorem mo_index_no {i j t : Int} {w : World} (h : idxOK i j t = false) : Calls Try.prog 62 #[.int .i64 i, .int .i64 j, .int .i64 t] w fun e W' => e = .returned (.int .i64 (-1)) ∧ w = W' := by
  have H : ¬ (0 ≤ i ∧ i ≤ 65535 ∧ 0 ≤ j ∧ j ≤ 65535 ∧ 1 ≤ t ∧ t ≤ 8) := of_decide_eq_false h
  clear h
  cases k1 : inB i 0 65535
  · clear H
    go_enter Try.func62, Try.ntmps62
    go_wp2_with (first | (go_at_call 86; refine mo_half.mono ?_; rintro e w1 ⟨rfl, rfl⟩) | (go_at_call 87; refine mo_from1.mono ?_; rintro e w1 ⟨rfl, rfl⟩))
    go_ret
    exact ⟨rfl, rfl⟩
  cases k2 : inB j 0 65535
  · clear H
    go_enter Try.func62, Try.ntmps62
    go_wp2_with (first | (go_at_call 86; refine mo_half.mono ?_; rintro e w1 ⟨rfl, rfl⟩) | (go_at_call 87; refine mo_from1.mono ?_; rintro e w1 ⟨rfl, rfl⟩))
    go_ret
    exact ⟨rfl, rfl⟩
  have k3 : inB t 1 8 = false := decide_eq_false (fun q => H ⟨(of_decide_eq_true k1).1, (of_decide_eq_true k1).2, (of_decide_eq_true k2).1, (of_decide_eq_true k2).2, q.1, q.2⟩)
  clear H
  go_enter Try.func62, Try.ntmps62
  go_wp2_with (first | (go_at_call 86; refine mo_half.mono ?_; rintro e w1 ⟨rfl, rfl⟩) | (go_at_call 87; refine mo_from1.mono ?_; rintro e w1 ⟨rfl, rfl⟩))
  go_ret
  exact ⟨rfl, rfl⟩
theorem mo_interN {i j : Nat} {w : World} (hi : i < 65536) (hj : j < 65536) : Calls Try.prog 88 #[.int .i64 (i : Int), .int .i64 (j : Int)] w fun e W' => e = .returned (.int .i64 ((spr i j 16 : Nat) : Int)) ∧ w = W' := by
  have h := mo_inter (i := (i : Int)) (j := (j : Int)) (w := w) (by omega) (by omega) (by omega) (by omega)
  rwa [show ((i : Int) % 65536).toNat = i by omega, show ((j : Int) % 65536).toNat = j by omega] at h
set_option maxRecDepth 100000 in
set_option maxHeartbeats 4000000 in
theorem mo_index {i j t : Nat} {w : World} (hi : i < 65536) (hj : j < 65536) (ht : 1 ≤ t) (h8 : t ≤ 8) : Calls Try.prog 62 #[.int .i64 (i : Int), .int .i64 (j : Int), .int .i64 (t : Int)] w fun e W' => e = .returned (.int .i64 ((plc i j t : Nat) : Int)) ∧ ∃ n, W' = w.drewN n := by
  have k1 : inB (i : Int) 0 65535 = true := decide_eq_true (by omega)
  have k2 : inB (j : Int) 0 65535 = true := decide_eq_true (by omega)
  have k3 : inB (t : Int) 1 8 = true := decide_eq_true (by omega)
  have q1 : (i : Int).tdiv (t : Int) = ((i / t : Nat) : Int) := Int.ofNat_tdiv i t
  have q2 : (j : Int).tdiv (t : Int) = ((j / t : Nat) : Int) := Int.ofNat_tdiv j t
  have r1 : (i : Int).tmod (t : Int) = ((i % t : Nat) : Int) := Int.ofNat_tmod i t
  have r2 : (j : Int).tmod (t : Int) = ((j % t : Nat) : Int) := Int.ofNat_tmod j t
  have d1 : i / t ≤ i := Nat.div_le_self _ _
  have d2 : j / t ≤ j := Nat.div_le_self _ _
  have m1 : i % t < t := Nat.mod_lt _ ht
  have m2 : j % t < t := Nat.mod_lt _ ht
  have hin := fun w => mo_interN (i := i / t) (j := j / t) (w := w) (by omega) (by omega)
  have hS := spr_lt (i / t) (j / t) 16
  rw [show (4 : Nat) ^ 16 = 4294967296 from rfl] at hS
  have e0 : plc i j t = spr (i / t) (j / t) 16 * t * t + i % t * t + j % t := rfl
  generalize plc i j t = P at *
  generalize spr (i / t) (j / t) 16 = S at *
  generalize i / t = a at *
  generalize j / t = b at *
  generalize i % t = c at *
  generalize j % t = d at *
  have w0 : IntKind.i64.wrap (a : Int) = (a : Int) := IntWalk.i64_in _ (by omega)
  have w0' : IntKind.i64.wrap (b : Int) = (b : Int) := IntWalk.i64_in _ (by omega)
  have b1 : S * t ≤ S * 8 := Nat.mul_le_mul_left _ h8
  have w1 : IntKind.i64.wrap ((S : Int) * (t : Int)) = ((S * t : Nat) : Int) := by rw [← Int.natCast_mul]; exact IntWalk.i64_in _ (by omega)
  generalize S * t = U at *
  have b2 : U * t ≤ U * 8 := Nat.mul_le_mul_left _ h8
  have w2 : IntKind.i64.wrap ((U : Int) * (t : Int)) = ((U * t : Nat) : Int) := by rw [← Int.natCast_mul]; exact IntWalk.i64_in _ (by omega)
  generalize U * t = V at *
  have b3 : c * t ≤ 8 * 8 := Nat.mul_le_mul (by omega) h8
  have w3 : IntKind.i64.wrap ((c : Int) * (t : Int)) = ((c * t : Nat) : Int) := by rw [← Int.natCast_mul]; exact IntWalk.i64_in _ (by omega)
  generalize c * t = Y at *
  have w4 : IntKind.i64.wrap ((V : Int) + (Y : Int)) = ((V + Y : Nat) : Int) := by rw [IntWalk.i64_in _ (by omega)]; omega
  generalize hX : V + Y = X at *
  have w5 : IntKind.i64.wrap ((X : Int) + (d : Int)) = ((X + d : Nat) : Int) := by rw [IntWalk.i64_in _ (by omega)]; omega
  have w6 : IntKind.i64.wrap (c : Int) = (c : Int) := IntWalk.i64_in _ (by omega)
  have w7 : IntKind.i64.wrap (d : Int) = (d : Int) := IntWalk.i64_in _ (by omega)
  have t0 : ((t : Int) == 0) = false := beq_eq_false_iff_ne.2 (by omega)
  have HE := Lib.hid e0
  have HIN := Lib.hid hin
  clear e0 hX b1 b2 b3 hS d1 d2 m1 m2 hin
  go_enter Try.func62, Try.ntmps62
  go_wp2_with (first | (go_at_call 86; refine mo_half.mono ?_; rintro e w1 ⟨rfl, rfl⟩) | (go_at_call 87; refine mo_from1.mono ?_; rintro e w1 ⟨rfl, rfl⟩))
  go_quiet ((go_at_call 88; exact Calls.quiet_of_same ((HIN.out _).mono fun e W' ⟨h1, h2⟩ => ⟨h1, h2.symm⟩)))
  go_wp2
  go_ret
  exact ⟨by rw [HE.out]; rfl, _, rfl⟩
end Go.Proofs.Ytjapilpjahhimaa

/- morton: Side, Size; vernierlaw16: spread, side, alive. -/
namespace Go.Proofs.Ytjapilpjahhimaa
open Go.RowKit Go.Shelf
/-- how many tiles: doubled as long as they do not reach -/
def sdF (M t : Nat) : Nat → Nat → Nat
  | 0, s => s
  | f + 1, s => if s * t < M then sdF M t f (2 * s) else s
def sdn (M t : Nat) : Nat := sdF M t 7 1
theorem sdF_stop {M t s : Nat} (h : ¬ s * t < M) (f : Nat) : sdF M t f s = s := by
  cases f with
  | zero => rfl
  | succ f => unfold sdF; rw [if_neg h]
theorem sdF_go {M t s f : Nat} (h : s * t < M) : sdF M t (f + 1) s = sdF M t f (2 * s) := by
  rw [sdF, if_pos h]
/-- a power of two that reaches, at most 64 -/
theorem sdn_pow {M t : Nat} (hM : M ≤ 64) (ht : 1 ≤ t) : ∃ k, k ≤ 6 ∧ sdn M t = 2 ^ k ∧ M ≤ sdn M t * t := by
  have key : ∀ f k, k ≤ 6 → 6 ≤ f + k → ∃ k', k' ≤ 6 ∧ sdF M t (f + 1) (2 ^ k) = 2 ^ k' ∧ M ≤ 2 ^ k' * t := by
    intro f
    induction f with
    | zero =>
      intro k hk hf
      obtain rfl : k = 6 := by omega
      have : ¬ 2 ^ 6 * t < M := by omega
      exact ⟨6, by omega, sdF_stop this _, by omega⟩
    | succ f ih =>
      intro k hk hf
      by_cases h : 2 ^ k * t < M
      · have h6 : k < 6 := by
          rcases Nat.lt_or_ge k 6 with h6 | h6
          · exact h6
          · obtain rfl : k = 6 := by omega
            omega
        rw [sdF_go h, ← Nat.pow_succ']
        exact ih (k + 1) (by omega) (by omega)
      · exact ⟨k, hk, sdF_stop h _, by omega⟩
  obtain ⟨k, h1, h2, h3⟩ := key 6 0 (by omega) (by omega)
  refine ⟨k, h1, h2, ?_⟩
  show M ≤ sdF M t 7 1 * t
  rw [show sdF M t 7 1 = 2 ^ k from h2]
  exact h3
def sideOK (R C t : Int) : Bool := decide (1 ≤ R ∧ R ≤ 64 ∧ 1 ≤ C ∧ C ≤ 64 ∧ 1 ≤ t ∧ t ≤ 8)
theorem mo_side_no {R C t : Int} {w : World} (h : sideOK R C t = false) : Calls Try.prog 85 #[.int .i64 R, .int .i64 C, .int .i64 t] w fun e W' => e = .returned (.tuple #[.int .i64 0, .int .i64 11]) ∧ w = W' := by
  have H : ¬ (1 ≤ R ∧ R ≤ 64 ∧ 1 ≤ C ∧ C ≤ 64 ∧ 1 ≤ t ∧ t ≤ 8) := of_decide_eq_false h
  clear h
  cases k1 : inB R 1 64
  · clear H
    go_enter Try.func85, Try.ntmps85
    go_wp2_with (go_at_call 87; refine mo_from1.mono ?_; rintro e w1 ⟨rfl, rfl⟩)
    go_ret2
    exact ⟨rfl, rfl⟩
  cases k2 : inB C 1 64
  · clear H
    go_enter Try.func85, Try.ntmps85
    go_wp2_with (go_at_call 87; refine mo_from1.mono ?_; rintro e w1 ⟨rfl, rfl⟩)
    go_ret2
    exact ⟨rfl, rfl⟩
  have k3 : inB t 1 8 = false := decide_eq_false (fun q => H ⟨(of_decide_eq_true k1).1, (of_decide_eq_true k1).2, (of_decide_eq_true k2).1, (of_decide_eq_true k2).2, q.1, q.2⟩)
  clear H
  go_enter Try.func85, Try.ntmps85
  go_wp2_with (go_at_call 87; refine mo_from1.mono ?_; rintro e w1 ⟨rfl, rfl⟩)
  go_ret2
  exact ⟨rfl, rfl⟩
set_option maxRecDepth 100000 in
set_option maxHeartbeats 4000000 in
theorem mo_side {R C t : Nat} {w : World} (hR : 1 ≤ R) (hR' : R ≤ 64) (hC : 1 ≤ C) (hC' : C ≤ 64) (ht : 1 ≤ t) (h8 : t ≤ 8) : Calls Try.prog 85 #[.int .i64 (R : Int), .int .i64 (C : Int), .int .i64 (t : Int)] w fun e W' => e = .returned (.tuple #[.int .i64 ((sdn (max R C) t : Nat) : Int), .int .i64 0]) ∧ w = W' := by
  have k1 : inB (R : Int) 1 64 = true := decide_eq_true (by omega)
  have k2 : inB (C : Int) 1 64 = true := decide_eq_true (by omega)
  have k3 : inB (t : Int) 1 8 = true := decide_eq_true (by omega)
  have hmx : max (R : Int) (C : Int) = ((max R C : Nat) : Int) := by omega
  have hM : max R C ≤ 64 := by omega
  have H0 := Lib.hid (show sdF (max R C) t 7 1 = sdn (max R C) t from rfl)
  generalize max R C = M at *
  generalize sdn M t = D at *
  go_enter Try.func85, Try.ntmps85
  go_wp2_with (go_at_call 87; refine mo_from1.mono ?_; rintro e w1 ⟨rfl, rfl⟩)
  go_loop [8] (fun s => ∃ k n : Nat, k ≤ 6 ∧ s = .int .i64 n ∧ Hid (n = 2 ^ k) ∧ n ≤ 64 ∧ Hid (sdF M t (7 - k) n = D)) (fun s => 128 - (intOf s).toNat)
  case atStart => exact ⟨0, 1, by omega, rfl, Lib.hid rfl, by omega, H0⟩
  case round =>
    obtain ⟨k, n, hk, rfl, HN, hn, HD⟩ := hrel
    have hn1 : 1 ≤ n := by rw [HN.out]; exact Nat.two_pow_pos k
    have hw : IntKind.i64.wrap ((n : Int) * (t : Int)) = ((n * t : Nat) : Int) := by
      have := Nat.mul_le_mul hn h8
      rw [← Int.natCast_mul]
      exact IntWalk.i64_in _ (by omega)
    by_cases hlt : n * t < M
    · have h6 : k < 6 := by
        rcases Nat.lt_or_ge k 6 with h6 | h6
        · exact h6
        · obtain rfl : k = 6 := by omega
          have : n * 1 ≤ n * t := Nat.mul_le_mul_left _ ht
          have := HN.out
          omega
      have HN2 : Hid (2 * n = 2 ^ (k + 1)) := Lib.hid (by rw [HN.out, Nat.pow_succ']; )
      have h64 : 2 * n ≤ 64 := by
        rw [HN2.out]
        exact Nat.pow_le_pow_right (n := 2) (by decide) (show k + 1 ≤ 6 by omega)
      have HD2 : Hid (sdF M t (7 - (k + 1)) (2 * n) = D) := Lib.hid (by
        have := HD.out
        rw [show 7 - k = 7 - (k + 1) + 1 by omega, sdF_go hlt] at this
        exact this)
      have hge : decide (((n * t : Nat) : Int) < (M : Int)) = true := decide_eq_true (by omega)
      generalize n * t = P at *
      go_wp2
      exact ⟨⟨k + 1, 2 * n, by omega, (by first | rfl | (congr 1; omega)), HN2, h64, HD2⟩, by simp [intOf]; omega⟩
    · have HD2 : Hid (n = D) := Lib.hid ((sdF_stop hlt _).symm.trans HD.out)
      have hge : decide (((n * t : Nat) : Int) < (M : Int)) = false := decide_eq_false (by omega)
      generalize n * t = P at *
      go_wp2
      go_ret2
      exact ⟨by rw [HD2.out]; rfl, rfl⟩
/-- a layout's size -/
def sizN (M t : Nat) : Nat := sdn M t * sdn M t * t * t
theorem sizN_le {M t : Nat} (hM : M ≤ 64) (ht : 1 ≤ t) (h8 : t ≤ 8) : sizN M t ≤ 262144 := by
  obtain ⟨k, h1, h2, _⟩ := sdn_pow hM ht
  have h3 : sdn M t ≤ 64 := by rw [h2]; exact Nat.pow_le_pow_right (n := 2) (by decide) h1
  have h4 := Nat.mul_le_mul (Nat.mul_le_mul (Nat.mul_le_mul h3 h3) h8) h8
  exact h4
set_option maxHeartbeats 2000000 in
theorem mo_size {R C t : Nat} {w : World} (hR : 1 ≤ R) (hR' : R ≤ 64) (hC : 1 ≤ C) (hC' : C ≤ 64) (ht : 1 ≤ t) (h8 : t ≤ 8) : Calls Try.prog 61 #[.int .i64 (R : Int), .int .i64 (C : Int), .int .i64 (t : Int)] w fun e W' => e = .returned (.tuple #[.int .i64 ((sizN (max R C) t : Nat) : Int), .int .i64 0]) ∧ w = W' := by
  have hs := fun w => mo_side (w := w) hR hR' hC hC' ht h8
  obtain ⟨k, h1, h2, _⟩ := sdn_pow (M := max R C) (by omega) ht
  have h3 : sdn (max R C) t ≤ 64 := by rw [h2]; exact Nat.pow_le_pow_right (n := 2) (by decide) h1
  unfold sizN
  clear h1 h2
  generalize sdn (max R C) t = D at *
  have b1 := Nat.mul_le_mul h3 h3
  have w1 : IntKind.i64.wrap ((D : Int) * (D : Int)) = ((D * D : Nat) : Int) := by rw [← Int.natCast_mul]; exact IntWalk.i64_in _ (by omega)
  generalize D * D = A at *
  have b2 := Nat.mul_le_mul b1 h8
  have w2 : IntKind.i64.wrap ((A : Int) * (t : Int)) = ((A * t : Nat) : Int) := by rw [← Int.natCast_mul]; exact IntWalk.i64_in _ (by omega)
  generalize A * t = B at *
  have b3 := Nat.mul_le_mul b2 h8
  have w3 : IntKind.i64.wrap ((B : Int) * (t : Int)) = ((B * t : Nat) : Int) := by rw [← Int.natCast_mul]; exact IntWalk.i64_in _ (by omega)
  clear b1 b2 b3
  go_enter Try.func61, Try.ntmps61
  go_wp2_with fail
  refine (hs _).mono ?_
  rintro e w1 ⟨rfl, rfl⟩
  clear hs
  go_wp2
  go_ret2
  exact ⟨rfl, rfl⟩
theorem mo_size_no {R C t : Int} {w : World} (h : sideOK R C t = false) (_h1 : -9223372036854775808 ≤ t) (_h2 : t ≤ 9223372036854775807) : Calls Try.prog 61 #[.int .i64 R, .int .i64 C, .int .i64 t] w fun e W' => e = .returned (.tuple #[.int .i64 0, .int .i64 11]) ∧ w = W' := by
  have hs := fun w => mo_side_no (w := w) h
  clear h _h1 _h2
  have z : IntKind.i64.wrap (0 * t) = 0 := by rw [Int.zero_mul]; exact IntWalk.i64_in _ (by omega)
  go_enter Try.func61, Try.ntmps61
  go_wp2_with fail
  refine (hs _).mono ?_
  rintro e w1 ⟨rfl, rfl⟩
  clear hs
  go_wp2
  go_ret2
  exact ⟨rfl, rfl⟩
end Go.Proofs.Ytjapilpjahhimaa

/- morton.Apart: bits gathered. -/
namespace Go.Proofs.Ytjapilpjahhimaa
open Go.RowKit Go.Shelf
def gat (f : Nat → Nat) : Nat → Nat
  | 0 => 0
  | n + 1 => gat f n + 2 ^ n * f n
theorem gat_lt {f : Nat → Nat} (hf : ∀ b, f b ≤ 1) (n : Nat) : gat f n < 2 ^ n := by
  induction n with
  | zero => exact Nat.one_pos
  | succ n ih =>
    have h2 := Nat.mul_le_mul_left (2 ^ n) (hf n)
    show gat f n + 2 ^ n * f n < 2 ^ (n + 1)
    rw [Nat.pow_succ]
    omega
theorem gat_bit {f : Nat → Nat} (hf : ∀ b, f b ≤ 1) {n b : Nat} (h : b < n) : gat f n / 2 ^ b % 2 = f b := by
  induction n with
  | zero => omega
  | succ n ih =>
    have hp : 0 < 2 ^ b := Nat.two_pow_pos b
    show (gat f n + 2 ^ n * f n) / 2 ^ b % 2 = f b
    by_cases e : b = n
    · subst e
      rw [Nat.add_mul_div_left _ _ hp, Nat.div_eq_of_lt (gat_lt hf b), Nat.zero_add]
      have := hf b
      omega
    · obtain ⟨d, rfl⟩ : ∃ d, n = b + 1 + d := ⟨n - (b + 1), by omega⟩
      have e2 : 2 ^ (b + 1 + d) * f (b + 1 + d) = 2 ^ b * (2 * (2 ^ d * f (b + 1 + d))) := by
        rw [Nat.pow_add, Nat.pow_succ]; simp only [Nat.mul_assoc]
      rw [e2, Nat.add_mul_div_left _ _ hp, Nat.add_mul_mod_self_left]
      exact ih (by omega)
/-- apart, and together again -/
theorem spr_gat (Z : Nat) : spr (gat (fun b => Z / 2 ^ (2 * b + 1) % 2) 16) (gat (fun b => Z / 2 ^ (2 * b) % 2) 16) 16 = Z % 4294967296 := by
  have hf : ∀ b, (fun b => Z / 2 ^ (2 * b + 1) % 2) b ≤ 1 := fun b => by dsimp only; omega
  have hg : ∀ b, (fun b => Z / 2 ^ (2 * b) % 2) b ≤ 1 := fun b => by dsimp only; omega
  have key : ∀ n, n ≤ 16 → spr (gat (fun b => Z / 2 ^ (2 * b + 1) % 2) 16) (gat (fun b => Z / 2 ^ (2 * b) % 2) 16) n = Z % 4 ^ n := by
    intro n
    induction n with
    | zero => intro _; show 0 = _; rw [Nat.pow_zero, Nat.mod_one]
    | succ n ih =>
      intro hn
      show spr _ _ n + 4 ^ n * pr2 _ _ n = _
      rw [ih (by omega), Nat.mod_pow_succ]
      congr 2
      unfold pr2
      rw [gat_bit hf (by omega), gat_bit hg (by omega)]
      have e4 : (4 : Nat) ^ n = 2 ^ (2 * n) := by rw [Nat.pow_mul]
      rw [e4, Nat.pow_succ, ← Nat.div_div_eq_div_mul]
      generalize Z / 2 ^ (2 * n) = q
      omega
  exact key 16 (by omega)
theorem bitZ32 (z : Int) {p : Nat} (hp : p < 32) : z / 2 ^ p % 2 = (((z % 4294967296).toNat / 2 ^ p % 2 : Nat) : Int) := by
  obtain rfl | rfl | rfl | rfl | rfl | rfl | rfl | rfl | rfl | rfl | rfl | rfl | rfl | rfl | rfl | rfl | rfl | rfl | rfl | rfl | rfl | rfl | rfl | rfl | rfl | rfl | rfl | rfl | rfl | rfl | rfl | rfl : p = 0 ∨ p = 1 ∨ p = 2 ∨ p = 3 ∨ p = 4 ∨ p = 5 ∨ p = 6 ∨ p = 7 ∨ p = 8 ∨ p = 9 ∨ p = 10 ∨ p = 11 ∨ p = 12 ∨ p = 13 ∨ p = 14 ∨ p = 15 ∨ p = 16 ∨ p = 17 ∨ p = 18 ∨ p = 19 ∨ p = 20 ∨ p = 21 ∨ p = 22 ∨ p = 23 ∨ p = 24 ∨ p = 25 ∨ p = 26 ∨ p = 27 ∨ p = 28 ∨ p = 29 ∨ p = 30 ∨ p = 31 := by omega
  all_goals omega
def oddZ (Z n : Nat) : Nat := gat (fun b => Z / 2 ^ (2 * b + 1) % 2) n
def evnZ (Z n : Nat) : Nat := gat (fun b => Z / 2 ^ (2 * b) % 2) n
theorem low32 (z : Int) : bits .and .i64 z 4294967295 = z % 4294967296 := by
  have h1 : ((BitVec.ofInt 64 z).toNat : Int) = z % 18446744073709551616 := by
    rw [BitVec.toNat_ofInt]
    have h := Int.emod_nonneg z (show (2 : Int) ^ 64 ≠ 0 by decide)
    exact Int.toNat_of_nonneg h
  have h2 : (BitVec.ofInt 64 (4294967295 : Int)).toNat = 2 ^ 32 - 1 := by decide
  show IntKind.i64.wrap ((BitVec.ofInt 64 z &&& BitVec.ofInt 64 4294967295).toNat : Int) = _
  rw [BitVec.toNat_and, h2, Nat.and_two_pow_sub_one_eq_mod, IntKind.wrap_i64]
  generalize (BitVec.ofInt 64 z).toNat = t at *
  omega
end Go.Proofs.Ytjapilpjahhimaa

/- vernierlaw16.MortonTells, walked. -/
namespace Go.Proofs.Ytjapilpjahhimaa
open Go.RowKit Go.Shelf
theorem below_same' {w w' : World} (h : w = w') : Below w.heap.size w w' := h ▸ Below.refl _ _
theorem idxOK_nat {i j t : Int} (h : idxOK i j t = true) : ∃ a b c : Nat, i = a ∧ j = b ∧ t = c ∧ a < 65536 ∧ b < 65536 ∧ 1 ≤ c ∧ c ≤ 8 := by
  have h := of_decide_eq_true h
  exact ⟨i.toNat, j.toNat, t.toNat, by omega, by omega, by omega, by omega, by omega, by omega, by omega⟩
/-- what Side and Size tell, and the law's own side -/
def sidN (R C t : Int) : Nat := if sideOK R C t then sdn (max R.toNat C.toNat) t.toNat else 0
def sizM (R C t : Int) : Nat := if sideOK R C t then sizN (max R.toNat C.toNat) t.toNat else 0
def sidE (R C t : Int) : Int := if sideOK R C t then 0 else 11
theorem sideOK_nat {R C t : Int} (h : sideOK R C t = true) : ∃ a b c : Nat, R = a ∧ C = b ∧ t = c ∧ 1 ≤ a ∧ a ≤ 64 ∧ 1 ≤ b ∧ b ≤ 64 ∧ 1 ≤ c ∧ c ≤ 8 := by
  have h := of_decide_eq_true h
  exact ⟨R.toNat, C.toNat, t.toNat, by omega, by omega, by omega, by omega, by omega, by omega, by omega, by omega, by omega⟩
theorem side_any {R C t : Int} (w : World) : Calls Try.prog 85 #[.int .i64 R, .int .i64 C, .int .i64 t] w fun e W' => e = .returned (.tuple #[.int .i64 ((sidN R C t : Nat) : Int), .int .i64 (sidE R C t)]) ∧ w = W' := by
  cases h : sideOK R C t
  · have := mo_side_no (w := w) h
    unfold sidN sidE; rw [h]; exact this
  · unfold sidN sidE; rw [h]
    obtain ⟨a, b, c, rfl, rfl, rfl, h1, h2, h3, h4, h5, h6⟩ := sideOK_nat h
    exact mo_side h1 h2 h3 h4 h5 h6
theorem size_any {R C t : Int} (h1 : -9223372036854775808 ≤ t) (h2 : t ≤ 9223372036854775807) (w : World) : Calls Try.prog 61 #[.int .i64 R, .int .i64 C, .int .i64 t] w fun e W' => e = .returned (.tuple #[.int .i64 ((sizM R C t : Nat) : Int), .int .i64 (sidE R C t)]) ∧ w = W' := by
  cases h : sideOK R C t
  · have := mo_size_no (w := w) h h1 h2
    unfold sizM sidE; rw [h]; exact this
  · unfold sizM sidE; rw [h]
    obtain ⟨a, b, c, rfl, rfl, rfl, h1, h2, h3, h4, h5, h6⟩ := sideOK_nat h
    exact mo_size h1 h2 h3 h4 h5 h6
def plZ (i j t : Int) : Int := if idxOK i j t then (plc i.toNat j.toNat t.toNat : Nat) else -1
theorem index_any {i j t : Int} (w : World) : Calls Try.prog 62 #[.int .i64 i, .int .i64 j, .int .i64 t] w fun e W' => e = .returned (.int .i64 (plZ i j t)) ∧ Below w.heap.size w W' := by
  cases h : idxOK i j t
  · refine (mo_index_no (w := w) h).mono ?_
    rintro e W' ⟨h1, h2⟩
    refine ⟨?_, below_same' h2⟩
    unfold plZ; rw [h]; exact h1
  · unfold plZ; rw [h]
    obtain ⟨a, b, c, rfl, rfl, rfl, h1, h2, h3, h4⟩ := idxOK_nat h
    refine (mo_index (w := w) h1 h2 h3 h4).mono ?_
    rintro e W' ⟨h1, n, rfl⟩
    exact ⟨h1, below_drewN _ _ _⟩
/-- the four tests of sides and sizes -/
theorem sides_hold {R C t : Int} : (sizM R C t = sidN R C t * sidN R C t * t.toNat * t.toNat) ∧ (sideOK R C t = true → sidN R C t ≤ 64 ∧ 0 < sidN R C t ∧ 0 ≤ t ∧ t ≤ 8 ∧ sidE R C t = 0) ∧ (sideOK R C t = false → sidN R C t = 0 ∧ sidE R C t = 11 ∧ sizM R C t = 0) := by
  unfold sizM sidN sidE
  cases h : sideOK R C t
  · simp
  · obtain ⟨a, b, c, rfl, rfl, rfl, h1, h2, h3, h4, h5, h6⟩ := sideOK_nat h
    obtain ⟨k, k1, k2, _⟩ := sdn_pow (M := max a b) (t := c) (by omega) h5
    have h3 : sdn (max a b) c ≤ 64 := by rw [k2]; exact Nat.pow_le_pow_right (n := 2) (by decide) k1
    have h4 : 0 < sdn (max a b) c := by rw [k2]; exact Nat.two_pow_pos _
    refine ⟨rfl, fun _ => ⟨h3, h4, by omega, by omega, rfl⟩, fun h => by cases h⟩
/-- the law's tests of sides, sizes, as the walk spells them -/
structure SideFacts (D Z : Nat) (E t : Int) : Prop where
  p1 : IntKind.i64.wrap ((D : Int) * (D : Int)) = ((D * D : Nat) : Int)
  p2 : IntKind.i64.wrap (((D * D : Nat) : Int) * t) = ((D * D * t.toNat : Nat) : Int)
  p3 : IntKind.i64.wrap (((D * D * t.toNat : Nat) : Int) * t) = (Z : Int)
  q : (E = 0 ∧ 0 < D) ∨ (E = 11 ∧ D = 0 ∧ Z = 0)
theorem side_facts' {R C t : Int} (h1 : -9223372036854775808 ≤ t) (h2 : t ≤ 9223372036854775807) : SideFacts (sidN R C t) (sizM R C t) (sidE R C t) t := by
  obtain ⟨e, hy, hn⟩ := sides_hold (R := R) (C := C) (t := t)
  cases h : sideOK R C t
  · obtain ⟨a, b, c⟩ := hn h
    rw [a, b, c]
    refine ⟨?_, ?_, ?_, .inr ⟨rfl, rfl, rfl⟩⟩
    · decide
    · rw [show (0 * 0 * t.toNat : Nat) = 0 by simp, show ((0 * 0 : Nat) : Int) = 0 from rfl, Int.zero_mul]; decide
    · rw [show (0 * 0 * t.toNat : Nat) = 0 by simp, show ((0 : Nat) : Int) = 0 from rfl, Int.zero_mul]; decide
  · obtain ⟨a, b, c, d, f⟩ := hy h
    rw [f, e]
    generalize sidN R C t = D at *
    obtain ⟨T, rfl⟩ : ∃ T : Nat, t = T := ⟨t.toNat, by omega⟩
    rw [Int.toNat_natCast]
    have b1 := Nat.mul_le_mul a a
    have b2 := Nat.mul_le_mul b1 (show T ≤ 8 by omega)
    have b3 := Nat.mul_le_mul b2 (show T ≤ 8 by omega)
    refine ⟨?_, ?_, ?_, .inl ⟨rfl, b⟩⟩
    · rw [← Int.natCast_mul]; exact IntWalk.i64_in _ (by omega)
    · rw [Int.toNat_natCast, ← Int.natCast_mul]; exact IntWalk.i64_in _ (by omega)
    · rw [Int.toNat_natCast, ← Int.natCast_mul]; exact IntWalk.i64_in _ (by omega)
end Go.Proofs.Ytjapilpjahhimaa

/- Layouts: plain lists. -/
namespace Go.Proofs.Ytjapilpjahhimaa
/-- a place's tile lies among s times s -/
theorem spr_small {a b k : Nat} (ha : a < 2 ^ k) (hb : b < 2 ^ k) : ∀ n, k ≤ n → spr a b n = spr a b k := by
  intro n
  induction n with
  | zero => intro h; obtain rfl : k = 0 := by omega
            rfl
  | succ n ih =>
    intro h
    by_cases e : k = n + 1
    · rw [e]
    · have hk : k ≤ n := by omega
      have hp : 2 ^ k ≤ 2 ^ n := Nat.pow_le_pow_right (by decide) hk
      show spr a b n + 4 ^ n * pr2 a b n = _
      rw [ih hk]
      unfold pr2
      rw [Nat.div_eq_of_lt (Nat.lt_of_lt_of_le ha hp), Nat.div_eq_of_lt (Nat.lt_of_lt_of_le hb hp)]
      rfl
theorem spr_lt_k {a b k n : Nat} (ha : a < 2 ^ k) (hb : b < 2 ^ k) (hk : k ≤ n) : spr a b n < 2 ^ k * 2 ^ k := by
  rw [spr_small ha hb n hk]
  have := spr_lt a b k
  rwa [show (4 : Nat) ^ k = 2 ^ k * 2 ^ k by rw [← Nat.mul_pow]] at this
theorem plc_lt {i j M t : Nat} (hM : M ≤ 64) (ht : 1 ≤ t) (hi : i < M) (hj : j < M) : plc i j t < sizN M t := by
  obtain ⟨k, k1, k2, k3⟩ := sdn_pow hM ht
  have ha : i / t < 2 ^ k := by rw [Nat.div_lt_iff_lt_mul ht, ← k2]; omega
  have hb : j / t < 2 ^ k := by rw [Nat.div_lt_iff_lt_mul ht, ← k2]; omega
  have h := spr_lt_k (n := 16) ha hb (by omega)
  rw [← k2] at h
  have m1 := Nat.mod_lt i ht
  have m2 := Nat.mod_lt j ht
  unfold plc sizN
  generalize sdn M t * sdn M t = D at *
  generalize spr (i / t) (j / t) 16 = S at *
  generalize i % t = x at *
  generalize j % t = y at *
  have h1 : x * t + y < t * t := by
    have := Nat.mul_le_mul_right t (show x + 1 ≤ t from m1)
    rw [Nat.add_mul, Nat.one_mul] at this
    omega
  have h2 : S * t * t + t * t ≤ D * t * t := by
    have := Nat.mul_le_mul_right t (Nat.mul_le_mul_right t (show S + 1 ≤ D from h))
    rw [Nat.add_mul, Nat.add_mul, Nat.one_mul] at this
    exact this
  omega
/-- the first k words put into their places -/
def stw (N C t : Nat) (xs : List Nat) : Nat → List Nat
  | 0 => List.replicate N 0
  | k + 1 => (stw N C t xs k).set (plc (k / C) (k % C) t) (lim xs k)
theorem stw_length (N C t : Nat) (xs : List Nat) (k : Nat) : (stw N C t xs k).length = N := by
  induction k with
  | zero => simp [stw]
  | succ k ih => simp [stw, ih]
theorem lim_rep (N p : Nat) : lim (List.replicate N 0) p = 0 := by
  unfold lim
  rw [List.getElem?_replicate]
  split <;> rfl
/-- what stands at a place that is none's -/
theorem stw_none {N C t p : Nat} (xs : List Nat) {k : Nat} (h : ∀ m, m < k → plc (m / C) (m % C) t ≠ p) : lim (stw N C t xs k) p = 0 := by
  induction k with
  | zero => exact lim_rep N p
  | succ k ih =>
    show lim ((stw N C t xs k).set _ _) p = 0
    rw [lim_set, if_neg (fun q => h k (by omega) q.1.symm)]
    exact ih fun m hm => h m (by omega)
/-- unlike places of a matrix of at most 64 columns are unlike -/
theorem place_ne {R C t m k : Nat} (ht : 1 ≤ t) (hR : R ≤ 64) (hC : C ≤ 64) (hm : m < R * C) (hk : k < R * C) (hne : m ≠ k) : plc (m / C) (m % C) t ≠ plc (k / C) (k % C) t := by
  have h0 : 0 < C := by
    rcases Nat.eq_zero_or_pos C with e | e
    · subst e; simp at hm
    · exact e
  have a1 : m / C < R := by rwa [Nat.div_lt_iff_lt_mul h0]
  have a2 : k / C < R := by rwa [Nat.div_lt_iff_lt_mul h0]
  have a3 := Nat.mod_lt m h0
  have a4 := Nat.mod_lt k h0
  intro h
  obtain ⟨e1, e2⟩ := plc_inj (by omega) (by omega) (by omega) (by omega) (by omega) h
  apply hne
  rw [← Nat.div_add_mod m C, ← Nat.div_add_mod k C, e1, e2]
theorem stw_at {R C t N : Nat} (xs : List Nat) (ht : 1 ≤ t) (hR : R ≤ 64) (hC : C ≤ 64) (hN : ∀ m, m < R * C → plc (m / C) (m % C) t < N) {k : Nat} (hk : k ≤ R * C) : ∀ m, m < k → lim (stw N C t xs k) (plc (m / C) (m % C) t) = lim xs m := by
  induction k with
  | zero => intro m hm; omega
  | succ k ih =>
    intro m hm
    show lim ((stw N C t xs k).set _ _) _ = _
    rw [lim_set, stw_length]
    by_cases e : m = k
    · subst e
      rw [if_pos ⟨rfl, hN m (by omega)⟩]
    · rw [if_neg (fun q => place_ne ht hR hC (by omega) (by omega) e q.1)]
      exact ih (by omega) m (by omega)
/-- how many words are not 0 -/
def cnt (xs : List Nat) (k : Nat) : Nat := (xs.take k).countP fun x => decide (x ≠ 0)
theorem cnt_zero (xs : List Nat) : cnt xs 0 = 0 := rfl
theorem cnt_succ {xs : List Nat} {k : Nat} (h : k < xs.length) : cnt xs (k + 1) = cnt xs k + if lim xs k = 0 then 0 else 1 := by
  unfold cnt
  rw [List.take_succ_eq_append_getElem h, List.countP_append]
  have e : lim xs k = xs[k] := by unfold lim; rw [List.getElem?_eq_getElem h]; rfl
  rw [e]
  by_cases h0 : xs[k] = 0
  · simp [h0]
  · simp [h0]
theorem countP_set {xs : List Nat} {p v : Nat} (hp : p < xs.length) (h0 : lim xs p = 0) : (xs.set p v).countP (fun x => decide (x ≠ 0)) = xs.countP (fun x => decide (x ≠ 0)) + if v = 0 then 0 else 1 := by
  have e : lim xs p = xs[p] := by unfold lim; rw [List.getElem?_eq_getElem hp]; rfl
  have e2 : xs = xs.take p ++ xs[p] :: xs.drop (p + 1) := by rw [List.getElem_cons_drop, List.take_append_drop]
  rw [List.set_eq_take_append_cons_drop, if_pos hp, List.countP_append, List.countP_cons]
  conv => rhs; rw [e2, List.countP_append, List.countP_cons]
  rw [← e, h0]
  by_cases hv : v = 0
  · simp [hv]
  · simp [hv]; omega
/-- as many as the matrix has -/
theorem stw_count {R C t N : Nat} {xs : List Nat} (ht : 1 ≤ t) (hR : R ≤ 64) (hC : C ≤ 64) (hN : ∀ m, m < R * C → plc (m / C) (m % C) t < N) (hl : xs.length = R * C) {k : Nat} (hk : k ≤ R * C) : (stw N C t xs k).countP (fun x => decide (x ≠ 0)) = cnt xs k := by
  induction k with
  | zero => simp [stw, cnt]
  | succ k ih =>
    show ((stw N C t xs k).set _ _).countP _ = _
    rw [countP_set (by rw [stw_length]; exact hN k (by omega)) (stw_none xs fun m hm => place_ne ht hR hC (by omega) (by omega) (by omega)), ih (by omega), cnt_succ (by omega)]
/-- all words in their places -/
def layW (R C t : Nat) (xs : List Nat) : List Nat := stw (sizN (max R C) t) C t xs (R * C)
theorem layW_at {R C t i j : Nat} (xs : List Nat) (ht : 1 ≤ t) (hR : R ≤ 64) (hC : C ≤ 64) (hi : i < R) (hj : j < C) : lim (layW R C t xs) (plc i j t) = lim xs (i * C + j) := by
  have h0 : 0 < C := by omega
  have hlt : i * C + j < R * C := by
    have := Nat.mul_le_mul_right C (show i + 1 ≤ R from hi)
    rw [Nat.add_mul, Nat.one_mul] at this
    omega
  have e1 : (i * C + j) / C = i := by rw [Nat.mul_comm, Nat.mul_add_div h0, Nat.div_eq_of_lt hj, Nat.add_zero]
  have e2 : (i * C + j) % C = j := by rw [Nat.mul_comm, Nat.mul_add_mod, Nat.mod_eq_of_lt hj]
  have h := stw_at (N := sizN (max R C) t) xs ht hR hC (fun m hm => by
    have a1 : m / C < R := by rwa [Nat.div_lt_iff_lt_mul h0]
    have a3 := Nat.mod_lt m h0
    exact plc_lt (by omega) ht (by omega) (by omega)) (Nat.le_refl _) (i * C + j) hlt
  rw [e1, e2] at h
  exact h
/-- there and back -/
theorem layW_back {R C t : Nat} {xs : List Nat} (ht : 1 ≤ t) (hR : R ≤ 64) (hC : C ≤ 64) (hl : xs.length = R * C) : tab R C (fun i j => lim (layW R C t xs) (plc i j t)) = xs := by
  rw [tab_congr (g' := fun i j => lim xs (i * C + j)) fun i j hi hj => layW_at xs ht hR hC hi hj]
  refine ext_lim (by rw [tab_length, hl]) fun k hk => ?_
  rw [tab_length] at hk
  have h0 : 0 < C := by
    rcases Nat.eq_zero_or_pos C with e | e
    · subst e; simp at hk
    · exact e
  have e : k = k / C * C + k % C := by rw [Nat.mul_comm]; exact (Nat.div_add_mod k C).symm
  have h := tab_lim (R := R) (C := C) (i := k / C) (j := k % C) (fun i j => lim xs (i * C + j)) (by rwa [Nat.div_lt_iff_lt_mul h0]) (Nat.mod_lt _ h0)
  rw [← e] at h
  exact h
theorem layW_count {R C t : Nat} {xs : List Nat} (ht : 1 ≤ t) (hR : R ≤ 64) (hC : C ≤ 64) (hl : xs.length = R * C) : cnt (layW R C t xs) (layW R C t xs).length = cnt xs xs.length := by
  unfold cnt
  rw [List.take_of_length_le (Nat.le_refl _), hl]
  show (stw _ _ _ _ _).countP _ = cnt xs (R * C)
  refine stw_count ht hR hC (fun m hm => ?_) hl (Nat.le_refl _)
  have h0 : 0 < C := by
    rcases Nat.eq_zero_or_pos C with e | e
    · subst e; simp at hm
    · exact e
  have a1 : m / C < R := by rwa [Nat.div_lt_iff_lt_mul h0]
  have a3 := Nat.mod_lt m h0
  exact plc_lt (by omega) ht (by omega) (by omega)
end Go.Proofs.Ytjapilpjahhimaa

/- morton.From. -/
namespace Go.Proofs.Ytjapilpjahhimaa
open Go.RowKit Go.Shelf
theorem sized_of' {a : Option Addr} {m cap : Nat} {xs : List Nat} {w : World} (hA : Arg w (.slice a m cap) xs) : m = xs.length := by
  obtain ⟨a', c', e⟩ := hA.slice
  simp only [Value.slice.injEq] at e
  omega
set_option maxHeartbeats 2000000 in
theorem mo_from_no {a : Option Addr} {m cap : Nat} {R C t : Int} {w : World} (h : sideOK R C t = false) (h1 : -9223372036854775808 ≤ t) (h2 : t ≤ 9223372036854775807) :
    Calls Try.prog 32 #[.slice a m cap, .int .i64 R, .int .i64 C, .int .i64 t] w fun e W' => e = .returned (.tuple #[.agg #[.int .i64 0, .int .i64 0, .slice none 0 0], .int .i64 11]) ∧ Below w.heap.size w W' := by
  have hz := fun w => mo_size_no (w := w) h h1 h2
  clear h h1 h2
  obtain ⟨bx, G⟩ := mbox w #[.int .i64 0, .int .i64 0, .slice none 0 0] 24 _ rfl
  go_enter Try.func32, Try.ntmps32
  go_wp2_with fail
  generalize w.alloc (.cells #[.int .i64 0, .int .i64 0, .slice none 0 0] 24) = W0 at *
  refine (hz _).mono ?_
  rintro e w1 ⟨rfl, rfl⟩
  clear hz
  have g0 := G.cell (i := 0) rfl
  have g1 := G.cell (i := 1) rfl
  have g2 := G.cell (i := 2) rfl
  have f0 := G.f 0
  have f1 := G.f 1
  have f2 := G.f 2
  go_wp2
  exact bodyPost_ret (v := .tuple #[.agg #[.int .i64 0, .int .i64 0, .slice none 0 0], .int .i64 11]) (by simp [results, Try.results32, go_sem, g0, g1, g2]) rfl
    ⟨rfl, bx.put3 (Nat.le_refl _) _ _ _⟩
set_option maxHeartbeats 2000000 in
theorem mo_from_long {a : Option Addr} {m cap R C t : Nat} {w : World} (hR : 1 ≤ R) (hR' : R ≤ 64) (hC : 1 ≤ C) (hC' : C ≤ 64) (ht : 1 ≤ t) (h8 : t ≤ 8) (hm : m ≠ sizN (max R C) t) :
    Calls Try.prog 32 #[.slice a m cap, .int .i64 (R : Int), .int .i64 (C : Int), .int .i64 (t : Int)] w fun e W' => e = .returned (.tuple #[.agg #[.int .i64 0, .int .i64 0, .slice none 0 0], .int .i64 5]) ∧ Below w.heap.size w W' := by
  have hz := fun w => mo_size (w := w) hR hR' hC hC' ht h8
  generalize sizN (max R C) t = N at *
  have hb : ((m : Int) != (N : Int)) = true := bne_iff_ne.2 (by omega)
  clear hm
  obtain ⟨bx, G⟩ := mbox w #[.int .i64 0, .int .i64 0, .slice none 0 0] 24 _ rfl
  go_enter Try.func32, Try.ntmps32
  go_wp2_with fail
  generalize w.alloc (.cells #[.int .i64 0, .int .i64 0, .slice none 0 0] 24) = W0 at *
  refine (hz _).mono ?_
  rintro e w1 ⟨rfl, rfl⟩
  clear hz
  have g0 := G.cell (i := 0) rfl
  have g1 := G.cell (i := 1) rfl
  have g2 := G.cell (i := 2) rfl
  have f0 := G.f 0
  have f1 := G.f 1
  have f2 := G.f 2
  go_wp2
  exact bodyPost_ret (v := .tuple #[.agg #[.int .i64 0, .int .i64 0, .slice none 0 0], .int .i64 5]) (by simp [results, Try.results32, go_sem, g0, g1, g2]) rfl
    ⟨rfl, bx.put3 (Nat.le_refl _) _ _ _⟩
set_option maxRecDepth 100000 in
set_option maxHeartbeats 4000000 in
theorem mo_from {a : Option Addr} {m cap R C t : Nat} {xs : List Nat} {w : World} (hA : Arg w (.slice a m cap) xs) (hR : 1 ≤ R) (hR' : R ≤ 64) (hC : 1 ≤ C) (hC' : C ≤ 64) (ht : 1 ≤ t) (h8 : t ≤ 8) (hm : m = sizN (max R C) t) :
    Calls Try.prog 32 #[.slice a m cap, .int .i64 (R : Int), .int .i64 (C : Int), .int .i64 (t : Int)] w fun e W' => ∃ b c, e = .returned (.tuple #[.agg #[.int .i64 (R : Int), .int .i64 (C : Int), .slice b (R * C) c], .int .i64 0]) ∧ New w.heap.size W' (.slice b (R * C) c) (tab R C fun i j => lim xs (plc i j t)) ∧ Below w.heap.size w W' := by
  have hz := fun w => mo_size (w := w) hR hR' hC hC' ht h8
  rw [← hm] at hz
  have hml := sized_of' hA
  have hrc : R * C ≤ 4096 := by have := Nat.mul_le_mul hR' hC'; omega
  have hwp : IntKind.i64.wrap ((R : Int) * (C : Int)) = ((R * C : Nat) : Int) := by rw [Int.natCast_mul]; exact IntWalk.i64_in _ (by omega)
  have hmk := make0_u64 (R * C) (by omega)
  have hpl : ∀ i j, i < R → j < C → plc i j t < m := fun i j hi hj => by rw [hm]; exact plc_lt (by omega) ht (by omega) (by omega)
  have HOWN := Lib.hid (own0_u64 (R * C) (by omega))
  have HPL := Lib.hid hpl
  obtain ⟨T, a', c', hT, e, hcap, HA⟩ := hA.opened
  simp only [Value.slice.injEq] at e
  obtain ⟨rfl, rfl, rfl⟩ := e
  clear hm hpl hA hml
  generalize xs.length = m at *
  obtain ⟨bx, G⟩ := mbox w #[.int .i64 0, .int .i64 0, .slice none 0 0] 24 _ rfl
  have hw0 : w.heap.size < (w.alloc (.cells #[.int .i64 0, .int .i64 0, .slice none 0 0] 24)).heap.size := by rw [World.size_alloc]; omega
  obtain ⟨g, hg⟩ : ∃ g : Nat → Nat → Nat, g = fun i j => lim xs (plc i j t) := ⟨_, rfl⟩
  rw [← hg]
  have HGF := Lib.hid hg
  clear hg
  generalize hN : R * C = N at *
  have HN := Lib.hid hN
  clear hN
  go_enter Try.func32, Try.ntmps32
  go_wp2_with fail
  generalize w.alloc (.cells #[.int .i64 0, .int .i64 0, .slice none 0 0] 24) = W0 at *
  have hm1 := hmk W0
  clear hmk
  refine (hz _).mono ?_
  rintro e w1 ⟨rfl, rfl⟩
  clear hz
  go_wp2
  have hown1 := HOWN.out W0
  clear hm1 HOWN
  have hB1 : Below W0.heap.size W0 (W0.alloc (.cells (madeCells #[.int .u64 0] N) 49)) := (Below.refl _ W0).alloc (Nat.le_refl _) _
  generalize W0.alloc (.cells (madeCells #[.int .u64 0] N) 49) = W1 at *
  go_loopw [12, 38] (fun d i wr => ∃ q : Nat, q ≤ R ∧ i = .int .i64 q ∧ OwnK .u64 49 W0.heap.size wr d (zn (pre C g (q * C))) ∧ Below W0.heap.size W0 wr) (fun _ i _ => R - (intOf i).toNat)
  case atStart => exact ⟨0, Nat.zero_le _, rfl, by rw [Nat.zero_mul, pre_zero]; exact hown1, hB1⟩
  case round =>
    obtain ⟨q, hq, rfl, hown, hB⟩ := hrel
    by_cases hlt : q < R
    · go_wp2
      have hown0 : OwnK .u64 49 W0.heap.size wr u12 (zn (pre C g (q * C + 0))) := hown
      have hqc : q * C + C ≤ N := by
        have := Nat.mul_le_mul_right C (show q + 1 ≤ R from hlt)
        rw [Nat.add_mul, Nat.one_mul, HN.out] at this
        omega
      clear hown
      obtain ⟨wo, rfl⟩ : ∃ wo : World, wo = wr := ⟨_, rfl⟩
      go_loopw [12, 42] (fun d j wi => ∃ r : Nat, r ≤ C ∧ j = .int .i64 r ∧ OwnK .u64 49 W0.heap.size wi d (zn (pre C g (q * C + r))) ∧ Below W0.heap.size W0 wi) (fun _ j _ => C - (intOf j).toNat)
      case atStart => exact ⟨0, Nat.zero_le _, rfl, hown0, hB⟩
      case round =>
        obtain ⟨r, hr, rfl, hownr, hBr⟩ := hrel
        by_cases hrt : r < C
        · have hix := mo_index (i := q) (j := r) (t := t) (w := wr) (by omega) (by omega) ht h8
          have HS := Lib.hid (pre_snoc (C := C) (i := q) g hrt)
          have hgv : Hid (g q r = lim xs (plc q r t)) := Lib.hid (by rw [HGF.out])
          have hlen : (zn (pre C g (q * C + r))).length + 1 ≤ 17592186044416 := by rw [zn_length, pre_length]; omega
          have hpm := HPL.out q r hlt hrt
          generalize plc q r t = pl at *
          go_wp2_with fail
          refine hix.mono ?_
          rintro e w2 ⟨rfl, n2, rfl⟩
          clear hix
          replace hBr := below_both hBr (below_drewN _ _ n2)
          have hown2 := hownr.below (below_drewN _ _ n2)
          generalize wr.drewN n2 = w2 at *
          obtain ⟨oa, rfl, ka⟩ := HA.out w2 (below_both bx hBr) pl hpm
          rw [← hgv.out] at ka
          go_wp2_with (at_builtin; refine app_u64 rfl _ _ rfl rfl rfl (cell_new1 _ _ _) (hown2.alloc _) hlen (by have := hBr.size; simp; omega) ?_; intro v' w3 hown3 hb3)
          go_roundw
          case rel => exact ⟨r + 1, by omega, by simp, by rw [← Nat.add_assoc, HS.out, zn_snoc]; exact hown3, (hBr.alloc hBr.size _).trans hb3⟩
          case measure => simp [intOf]; omega
        · obtain rfl : r = C := by omega
          clear hrt
          go_wp2
          go_roundw
          case rel => exact ⟨q + 1, by omega, by simp, by rw [Nat.add_mul, Nat.one_mul]; exact hownr, hBr⟩
          case measure => simp [intOf]; omega
    · obtain rfl : q = R := by omega
      clear hlt
      rw [HN.out] at hown
      have hnew := new_zn.2 (hown.new (Nat.lt_of_le_of_lt (Nat.zero_le _) (Nat.lt_of_lt_of_le hw0 hB.size)))
      have hN2 : (zn (pre C g N)).length = N := by rw [zn_length, pre_length]
      obtain ⟨a8, c8, e8⟩ := hown.len
      rw [hN2] at e8
      have G1 := G.below hB hw0
      have g0 := G1.cell (i := 0) rfl
      have g1 := G1.cell (i := 1) rfl
      have g2 := G1.cell (i := 2) rfl
      have f0 := G1.f 0
      have f1 := G1.f 1
      have f2 := G1.f 2
      subst e8
      have HNEW := Lib.hid hnew
      clear hnew hN2 hown hown1
      go_wp2
      exact bodyPost_ret (v := .tuple #[.agg #[.int .i64 (q : Int), .int .i64 (C : Int), .slice a8 N c8], .int .i64 0]) (by simp [results, Try.results32, go_sem, g0, g1, g2]) rfl
        ⟨a8, c8, rfl, ((by unfold tab; rw [HN.out]; exact HNEW.out : New W0.heap.size wr (.slice a8 N c8) (tab q C g)).put3 hw0 _ _ _).lower (Nat.le_of_lt hw0), (below_both bx hB).put3 (Nat.le_refl _) _ _ _⟩
end Go.Proofs.Ytjapilpjahhimaa

/- vernierlaw16.MortonFrom, walked. -/
namespace Go.Proofs.Ytjapilpjahhimaa
open Go.RowKit Go.Shelf
theorem mod16' {x : Nat} (h : x < 65536) : ((x : Int) % 65536).toNat = x := by omega
end Go.Proofs.Ytjapilpjahhimaa

/- morton.To. -/
namespace Go.Proofs.Ytjapilpjahhimaa
open Go.RowKit Go.Shelf
theorem sized_of {a : Option Addr} {m cap : Nat} {xs : List Nat} {w : World} (hA : Arg w (.slice a m cap) xs) : m = xs.length := by
  obtain ⟨a', c', e⟩ := hA.slice
  simp only [Value.slice.injEq] at e
  omega
set_option maxRecDepth 100000 in
set_option maxHeartbeats 8000000 in
theorem mo_to {a : Option Addr} {m cap R C t : Nat} {xs : List Nat} {w : World} (hA : Arg w (.slice a m cap) xs) (h : mayM R C m = true) (ht : 1 ≤ t) (h8 : t ≤ 8) :
    Calls Try.prog 33 #[.agg #[.int .i64 (R : Int), .int .i64 (C : Int), .slice a m cap], .int .i64 (t : Int)] w fun e W' => ∃ v, e = .returned (.tuple #[v, .int .i64 0]) ∧ New w.heap.size W' v (layW R C t xs) ∧ Below w.heap.size w W' := by
  have hm := mayM_iff.1 h
  have hml := sized_of hA
  have hlen : xs.length = R * C := by rw [← hml]; have := hm.2.2.2.2; exact_mod_cast this
  have hR : R ≤ 64 ∧ 1 ≤ R := by omega
  have hC : C ≤ 64 ∧ 1 ≤ C := by omega
  have hk := fun w => shape_check (a := a) (m := m) (cap := cap) (R := (R : Int)) (C := (C : Int)) (w := w)
  rw [show chkM (R : Int) (C : Int) m = 0 by unfold chkM; rw [h]; rfl] at hk
  have hz := fun w => mo_size (R := R) (C := C) (t := t) (w := w) hR.2 hR.1 hC.2 hC.1 ht h8
  have hN := sizN_le (M := max R C) (t := t) (by omega) ht h8
  have hpl : ∀ i j, i < R → j < C → plc i j t < sizN (max R C) t := fun i j hi hj => plc_lt (by omega) ht (by omega) (by omega)
  obtain ⟨bx, G⟩ := mbox w #[.int .i64 (R : Int), .int .i64 (C : Int), .slice a m cap] 24 _ rfl
  have HL := Lib.hid (show layW R C t xs = stw (sizN (max R C) t) C t xs (R * C) from rfl)
  have HST := Lib.hid (fun k => show stw (sizN (max R C) t) C t xs (k + 1) = (stw (sizN (max R C) t) C t xs k).set (plc (k / C) (k % C) t) (lim xs k) from rfl)
  have HLN := Lib.hid (fun k => stw_length (sizN (max R C) t) C t xs k)
  have HRP := Lib.hid (show stw (sizN (max R C) t) C t xs 0 = List.replicate (sizN (max R C) t) 0 from rfl)
  generalize layW R C t xs = ys at *
  generalize hsz : sizN (max R C) t = N at *
  clear hsz
  generalize stw N C t xs = F at *
  have hmk := make_u64 N (by omega)
  have HPL := Lib.hid hpl
  have HLEN := Lib.hid hlen
  have HA0 := Lib.hid (hA.behind bx)
  obtain ⟨T, a', c', hT, e, hcap, HA⟩ := (hA.behind bx).opened
  simp only [Value.slice.injEq] at e
  obtain ⟨rfl, rfl, rfl⟩ := e
  have HG := G
  have c00 := G.cell (i := 0) rfl
  have c01 := G.cell (i := 1) rfl
  have c02 := G.cell (i := 2) rfl
  clear hlen hml hm h hpl hA
  generalize xs.length = m at *
  go_enter Try.func33, Try.ntmps33
  go_wp2_with fail
  generalize w.alloc (.cells #[.int .i64 (R : Int), .int .i64 (C : Int), .slice a m cap] 24) = W0 at *
  refine (hk _).mono ?_
  rintro e w1 ⟨rfl, b1⟩
  clear hk c00 c01 c02
  have G1 := HG.behind b1
  have c00 := G1.cell (i := 0) rfl
  have c01 := G1.cell (i := 1) rfl
  have c02 := G1.cell (i := 2) rfl
  go_wp2_with fail
  refine (hz _).mono ?_
  rintro e w2 ⟨rfl, rfl⟩
  clear hz
  have hmk1 := hmk w1
  have hrow := Row.new w1 .u64 49 (List.replicate N 0)
  have c00' := (G1.behind (bel_new w1 (.cells (cellsOf .u64 (List.replicate N 0)) 49))).cell (i := 0) rfl
  rw [← HRP.out] at hrow hmk1 c00'
  clear hmk
  go_wp2
  have hB1 : Below w1.heap.size w1 (w1.alloc (.cells (cellsOf .u64 (F 0)) 49)) := bel_new w1 _
  clear hmk1
  generalize w1.alloc (.cells (cellsOf .u64 (F 0)) 49) = W2 at *
  go_loopw [33] (fun i wr => ∃ q : Nat, q ≤ R ∧ i = .int .i64 q ∧ Row .u64 49 wr w1.heap.size (F (q * C)) ∧ Below w1.heap.size w1 wr) (fun i _ => R - (intOf i).toNat)
  case atStart => exact ⟨0, Nat.zero_le _, rfl, by rw [Nat.zero_mul]; exact hrow, hB1⟩
  case round =>
    obtain ⟨q, hq, rfl, hrw, hB⟩ := hrel
    have c00 := (G1.behind hB).cell (i := 0) rfl
    have c01 := (G1.behind hB).cell (i := 1) rfl
    by_cases hlt : q < R
    · go_wp2
      have hrw0 : Row .u64 49 wr w1.heap.size (F (q * C + 0)) := hrw
      have hqc : q * C + C ≤ m := by
        have := Nat.mul_le_mul_right C (show q + 1 ≤ R from hlt)
        rw [Nat.add_mul, Nat.one_mul] at this
        have := HLEN.out
        omega
      clear hrw c00 c01
      obtain ⟨wo, rfl⟩ : ∃ wo : World, wo = wr := ⟨_, rfl⟩
      go_loopw [38] (fun j wi => ∃ r : Nat, r ≤ C ∧ j = .int .i64 r ∧ Row .u64 49 wi w1.heap.size (F (q * C + r)) ∧ Below w1.heap.size w1 wi) (fun j _ => C - (intOf j).toNat)
      case atStart => exact ⟨0, Nat.zero_le _, rfl, hrw0, hB⟩
      case round =>
        obtain ⟨r, hr, rfl, hrr, hBr⟩ := hrel
        by_cases hrt : r < C
        · have c01 := (G1.behind hBr).cell (i := 1) rfl
          have c02 := (G1.behind hBr).cell (i := 2) rfl
          have hix := fun w => mo_index (i := q) (j := r) (t := t) (w := w) (by omega) (by omega) ht h8
          obtain ⟨oa, rfl, ka⟩ := HA.out wr (below_both b1 hBr) (q * C + r) (by omega)
          obtain ⟨p1, p2⟩ := wplace (i := q) (C := C) (j := r) (by omega) hC.1 (by omega)
          have hpN := HPL.out q r hlt hrt
          have hFl := HLN.out (q * C + r)
          have hcl := hrr.cell (i := plc q r t) (by omega)
          have hfz := hrr.frozen (plc q r t)
          have HS : Hid (F (q * C + (r + 1)) = (F (q * C + r)).set (plc q r t) (lim xs (q * C + r))) := Lib.hid (by
            have h0 : 0 < C := by omega
            have e1 : (q * C + r) / C = q := by rw [Nat.mul_comm, Nat.mul_add_div h0, Nat.div_eq_of_lt hrt, Nat.add_zero]
            have e2 : (q * C + r) % C = r := by rw [Nat.mul_comm, Nat.mul_add_mod, Nat.mod_eq_of_lt hrt]
            have := HST.out (q * C + r)
            rw [e1, e2] at this
            exact this)
          have hpm : q * C + r < m := by omega
          generalize hP : q * C + r = P at *
          generalize q * C = Q at *
          generalize plc q r t = pl at *
          have HIX := Lib.hid hix
          clear hix hFl hP
          have hne : ¬ T = w1.heap.size := by have := b1.size; omega
          go_wp2_with fail
          go_region_with (first
            | (go_at_call 62; refine (HIX.out _).mono ?_; rintro e w4 ⟨rfl, n4, rfl⟩))
          all_goals
            go_wp2
            refine ⟨⟨r + 1, by omega, by simp, ?_, ?_⟩, by simp [intOf]; omega⟩
            · rw [HS.out]
              exact Row.set (W := wr.drewN _) hrr _ _
            · exact (below_both hBr (below_drewN _ _ _)).setCell (p := ⟨_, _, none⟩) (Nat.le_refl _) _
        · obtain rfl : r = C := by omega
          have c01 := (G1.behind hBr).cell (i := 1) rfl
          go_wp2
          go_roundw
          case rel => exact ⟨q + 1, by omega, by simp, by rw [Nat.add_mul, Nat.one_mul]; exact hrr, hBr⟩
          case measure => simp [intOf]; omega
    · obtain rfl : q = R := by omega
      rw [← HL.out] at hrw
      have hly : ys.length = N := by rw [HL.out]; exact HLN.out _
      go_wp2
      go_ret2
      refine ⟨_, rfl, ?_, below_both bx (below_both b1 hB)⟩
      have := hrw.rd N (by omega)
      rw [hly] at this
      exact ⟨w1.heap.size, this, hrw.lt, .inr (by have := bx.size; have := b1.size; omega)⟩
end Go.Proofs.Ytjapilpjahhimaa

/- vernierlaw16.MortonBack, walked. -/
namespace Go.Proofs.Ytjapilpjahhimaa
open Go.RowKit Go.Shelf
theorem mo_to_no {a : Option Addr} {m cap : Nat} {R C t : Int} {w : World} (h : mayM R C m = false) :
    Calls Try.prog 33 #[.agg #[.int .i64 R, .int .i64 C, .slice a m cap], .int .i64 t] w fun e W' => e = .returned (.tuple #[.slice none 0 0, .int .i64 11]) ∧ Below w.heap.size w W' := by
  have hk := fun w => shape_check (a := a) (m := m) (cap := cap) (R := R) (C := C) (w := w)
  rw [show chkM R C m = 11 by unfold chkM; rw [h]; rfl] at hk
  obtain ⟨bx, G⟩ := mbox w #[.int .i64 R, .int .i64 C, .slice a m cap] 24 _ rfl
  have c00 := G.cell (i := 0) rfl
  have c01 := G.cell (i := 1) rfl
  have c02 := G.cell (i := 2) rfl
  clear h
  go_enter Try.func33, Try.ntmps33
  go_wp2_with fail
  refine (hk _).mono ?_
  rintro e w1 ⟨rfl, b1⟩
  clear hk
  go_wp2
  go_ret2
  exact ⟨rfl, below_both bx b1⟩
theorem mo_to_tile {a : Option Addr} {m cap : Nat} {R C t : Int} {w : World} (h : mayM R C m = true) (h0 : sideOK R C t = false) (h1 : -9223372036854775808 ≤ t) (h2 : t ≤ 9223372036854775807) :
    Calls Try.prog 33 #[.agg #[.int .i64 R, .int .i64 C, .slice a m cap], .int .i64 t] w fun e W' => e = .returned (.tuple #[.slice none 0 0, .int .i64 11]) ∧ Below w.heap.size w W' := by
  have hk := fun w => shape_check (a := a) (m := m) (cap := cap) (R := R) (C := C) (w := w)
  rw [show chkM R C m = 0 by unfold chkM; rw [h]; rfl] at hk
  have hz := fun w => mo_size_no (w := w) h0 h1 h2
  obtain ⟨bx, G⟩ := mbox w #[.int .i64 R, .int .i64 C, .slice a m cap] 24 _ rfl
  have HG := G
  have c00 := G.cell (i := 0) rfl
  have c01 := G.cell (i := 1) rfl
  have c02 := G.cell (i := 2) rfl
  clear h h0 h1 h2
  go_enter Try.func33, Try.ntmps33
  go_wp2_with fail
  refine (hk _).mono ?_
  rintro e w1 ⟨rfl, b1⟩
  clear hk
  have c00 := (HG.behind b1).cell (i := 0) rfl
  have c01 := (HG.behind b1).cell (i := 1) rfl
  go_wp2_with fail
  refine (hz _).mono ?_
  rintro e w2 ⟨rfl, rfl⟩
  go_wp2
  go_ret2
  exact ⟨rfl, below_both bx b1⟩
theorem layW_length (R C t : Nat) (xs : List Nat) : (layW R C t xs).length = sizN (max R C) t := stw_length _ _ _ _ _
end Go.Proofs.Ytjapilpjahhimaa
