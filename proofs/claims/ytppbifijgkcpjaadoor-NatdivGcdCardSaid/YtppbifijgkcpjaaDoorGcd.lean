/- natdiv.Gcd over numbers. -/
import Derived.Test.YtppbifijgkcpjaaDoorOddGcd
namespace Go.Proofs.YtppbifijgkcpjaaDoor
open Go.RowKit Go.Shelf

attribute [local go_sem] Oper.semAt_some

theorem odd_part {z y m n : Nat} (h : 2 ^ z * (2 * m + 1) = 2 ^ y * (2 * n + 1)) : z = y ∧ m = n := by
  have key : ∀ {z y m n : Nat}, z < y → 2 ^ z * (2 * m + 1) = 2 ^ y * (2 * n + 1) → False := by
    intro z y m n hlt h
    obtain ⟨d, rfl⟩ := Nat.exists_eq_add_of_lt hlt
    rw [show z + d + 1 = z + (d + 1) by omega, Nat.pow_add, Nat.mul_assoc] at h
    have h2 := Nat.eq_of_mul_eq_mul_left (Nat.pow_pos (by decide)) h
    rw [Nat.pow_succ, Nat.mul_comm (2 ^ d) 2, Nat.mul_assoc] at h2
    omega
  rcases Nat.lt_trichotomy z y with hlt | rfl | hlt
  · exact (key hlt h).elim
  · have h2 := Nat.eq_of_mul_eq_mul_left (Nat.pow_pos (by decide)) h
    exact ⟨rfl, by omega⟩
  · exact (key hlt h.symm).elim
theorem ZOf.is {N z : Nat} (h : ZOf N z) (h0 : N ≠ 0) : ∃ m, N = 2 ^ z * (2 * m + 1) := by
  rcases h with ⟨h, _⟩ | h
  · exact absurd h h0
  · exact h
theorem gcd_two {z y m n : Nat} : Nat.gcd (2 ^ z * (2 * m + 1)) (2 ^ y * (2 * n + 1)) = Nat.gcd (2 * m + 1) (2 * n + 1) * 2 ^ min z y := by
  have key : ∀ {z y m n : Nat}, z ≤ y → Nat.gcd (2 ^ z * (2 * m + 1)) (2 ^ y * (2 * n + 1)) = Nat.gcd (2 * m + 1) (2 * n + 1) * 2 ^ z := by
    intro z y m n hle
    obtain ⟨d, rfl⟩ := Nat.exists_eq_add_of_le hle
    rw [Nat.pow_add, Nat.mul_assoc, Nat.gcd_mul_left, Nat.mul_comm]
    have hc : Nat.Coprime (2 ^ d) (2 * m + 1) := by
      have h3 : Nat.Coprime 2 (2 * m + 1) := show Nat.gcd 2 (2 * m + 1) = 1 by
        rw [Nat.gcd_rec, show (2 * m + 1) % 2 = 1 by omega]; rfl
      exact Nat.Coprime.pow_left d h3
    congr 1
    rw [Nat.gcd_comm, hc.gcd_mul_left_cancel, Nat.gcd_comm]
  rcases Nat.le_total z y with h | h
  · rw [key h, Nat.min_eq_left h]
  · rw [Nat.gcd_comm, key h, Nat.min_eq_right h, Nat.gcd_comm]
set_option maxHeartbeats 1000000 in
/-- nat.Norm of a number that is not 0: a copy that may be written -/
theorem norm_own {w : World} {va : Value} {N i : Nat} (hA : Num w va N i) (hi : i ≤ 17592186044416) (h0 : N ≠ 0) :
    Calls Tryd.prog 12 #[va] w fun e w' => ∃ v' S, e = .returned v' ∧ Own w' S v' N ∧ w.heap.size ≤ S ∧ Below w.heap.size w w' := by
  obtain ⟨xs, ⟨b, hb, hI⟩, hx, rfl, hxl⟩ := hA
  have hcx : cutz xs = digs 18446744073709551616 (val 18446744073709551616 xs) := cutz_eq_digs (by decide) hx
  have ht := trim_calls b va xs (by omega) w hb hI
  rw [hcx] at ht
  have hpos : 0 < (digs 18446744073709551616 (val 18446744073709551616 xs)).length := by rw [digs_pos (by decide) h0]; simp
  have hle : (digs 18446744073709551616 (val 18446744073709551616 xs)).length ≤ 17592186044416 := by
    rw [← hcx]
    exact Nat.le_trans (Nat.le_trans (cutz_length xs) hxl) hi
  obtain ⟨aa, ca, rfl, _, _⟩ := hI.slice
  clear hcx hI
  generalize val 18446744073709551616 xs = N at *
  go_enter Tryd.func12, Tryd.ntmps12
  go_wp2_with fail
  refine ht.mono ?_
  rintro e w1 ⟨v1, rfl, hr1, hb1⟩
  clear ht
  obtain ⟨a1, c1, rfl, _, hs1⟩ := hr1.slice
  obtain ⟨o1, rfl⟩ := hs1 hpos
  have hcl := clone_wb b o1 c1 _ hpos hle w1 (Nat.lt_of_lt_of_le hb hb1.size) hr1
  go_wp2_with fail
  refine hcl.mono ?_
  rintro e w2 ⟨v2, S, rfl, hr2, hw2, hS2, hb2⟩
  go_wp2_with fail
  go_ret
  exact ⟨_, S, rfl, ⟨hr2, hw2⟩, Nat.le_trans hb1.size hS2, below_both hb1 hb2⟩
/-- odd of a number in memory of its own -/
theorem odd_own {w : World} {S N i : Nat} {v : Value} (h : Own w S v N) (hN : N < 18446744073709551616 ^ i) (hi : i ≤ 17592186044416) (h0 : N ≠ 0) (hT : TabOk w) (hTS : (0 : Nat) ≠ S) :
    Calls Tryd.prog 18 #[v] w fun e W' => ∃ (v' : Value) (z m : Nat), e = .returned v' ∧ N = 2 ^ z * (2 * m + 1) ∧ Own W' S v' (2 * m + 1) ∧ Off S w W' := by
  obtain ⟨off, cap, rfl, hcap, hseg⟩ := h.seg h0
  have hdl := digs_length (B := 18446744073709551616) (by decide) hN
  refine (odd_calls S off cap _ (by omega) hcap (digs_low (by decide) N) (by rw [val_digs (by decide)]; exact h0) w hT hTS hseg).mono ?_
  rintro e W' ⟨v, z, m, rfl, hval, hr, hwb, ho⟩
  rw [val_digs (by decide)] at hval
  exact ⟨v, z, m, rfl, hval, ⟨hr, hwb⟩, ho⟩
theorem divmod_rest {w : World} {va vb : Value} {X Y i j : Nat} (hA : Num w va X i) (hB : Num w vb Y j) (hi : i ≤ 4398046511104) (hj : j ≤ 4398046511104) (hY : Y ≠ 0) (hle : Y ≤ X) :
    Calls Tryd.prog 8 #[va, vb] w fun e W' => ∃ q r S, e = .returned (.tuple #[q, r, .int .i64 0]) ∧ Own W' S r (X % Y) ∧ w.heap.size ≤ S ∧ Below w.heap.size w W' := by
  obtain ⟨xs, ⟨ba, hba, hIa⟩, hx, rfl, hxl⟩ := hA
  obtain ⟨ys, ⟨bb, hbb, hIb⟩, hy, rfl, hyl⟩ := hB
  have hb0 : 0 < (cutz ys).length := by
    rw [List.length_pos_iff]
    intro h
    have := val_cutz 18446744073709551616 ys
    rw [h] at this
    exact hY this.symm
  rw [← val_cutz 18446744073709551616 xs, ← val_cutz 18446744073709551616 ys] at hle ⊢
  have hab := low_length_le (B := 18446744073709551616) (by decide) (cutz_low hx) (cutz_cutz ys) hle
  exact (callsIn_wide.1 (divmod_own 9 (Nat.le_refl _) ba bb va vb xs ys _ _ (by omega) (by omega) hx hy rfl rfl hb0 hab w hba hbb hIa hIb)).mono fun _ _ ⟨q, r, he, _, ⟨S, h1, h3⟩, hB⟩ => ⟨q, r, S, he, h1, h3, hB⟩
end Go.Proofs.YtppbifijgkcpjaaDoor
