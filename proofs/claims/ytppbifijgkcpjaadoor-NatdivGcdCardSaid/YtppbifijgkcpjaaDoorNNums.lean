/- More of nat's calls, said of numbers. -/
import Derived.Test.YtppbifijgkcpjaaDoorNums
import Derived.Test.YtppbifijgkcpjaaDoorNatBits
import Derived.Test.YtppbifijgkcpjaaDoorBits
namespace Go.Proofs.YtppbifijgkcpjaaDoor
open Go.RowKit Go.Shelf

theorem pow_dist_lt {M N i j : Nat} (hM : M < 18446744073709551616 ^ i) (hN : N < 18446744073709551616 ^ j) : dist M N < 18446744073709551616 ^ (i + j) := by
  have h1 : 18446744073709551616 ^ i ≤ 18446744073709551616 ^ (i + j) := Nat.pow_le_pow_right (by decide) (by omega)
  have h2 : 18446744073709551616 ^ j ≤ 18446744073709551616 ^ (i + j) := Nat.pow_le_pow_right (by decide) (by omega)
  unfold dist
  omega
section
variable {va vb : Value} {M N i j : Nat} {w : World}
theorem bits_num (hA : Num w va M i) (hi : i ≤ 17592186044416) :
    Calls Tryd.prog 6 #[va] w fun e W' => e = .returned (.int .i64 (nbits M : Int)) ∧ Below w.heap.size w W' := by
  obtain ⟨xs, ⟨b, h1, h2⟩, h3, rfl, h4⟩ := hA
  exact bits_calls b va xs (by omega) h3 w h1 h2
theorem even_num (hA : Num w va M i) :
    Calls Tryd.prog 13 #[va] w fun e W' => e = .returned (.bool (decide (M % 2 = 0))) ∧ Below w.heap.size w W' := by
  obtain ⟨xs, ⟨b, h1, h2⟩, h3, rfl, h4⟩ := hA
  refine (even_calls b va xs h3 w h2).mono fun e W' ⟨he, hw⟩ => ⟨?_, hw ▸ Below.refl _ _⟩
  rw [he]
  congr 3
  cases xs with
  | nil => rfl
  | cons x r => rw [lim_cons_zero, val, eq_iff_iff]; omega
theorem cmp_num (hA : Num w va M i) (hB : Num w vb N j) (hi : i ≤ 17592186044416) (hj : j ≤ 17592186044416) :
    Calls Tryd.prog 15 #[va, vb] w fun e W' => e = .returned (.int .i64 (cmpN M N)) ∧ Below w.heap.size w W' := by
  obtain ⟨xs, h1, h2, rfl, h3⟩ := hA
  obtain ⟨ys, k1, k2, rfl, k3⟩ := hB
  exact cmp_arg h1 k1 (by omega) (by omega) h2 k2
theorem sub_num (hA : Num w va M i) (hB : Num w vb N j) (hi : i ≤ 17592186044416) (hj : j ≤ 17592186044416) :
    Calls Tryd.prog 32 #[va, vb] w fun e W' => ∃ v, e = .returned v ∧ Num W' v (dist M N) (i + j) ∧ New w.heap.size W' v (digs 18446744073709551616 (dist M N)) ∧ Below w.heap.size w W' := by
  have hl := pow_dist_lt hA.lt hB.lt
  obtain ⟨xs, h1, h2, rfl, h3⟩ := hA
  obtain ⟨ys, k1, k2, rfl, k3⟩ := hB
  exact (sub_arg h1 k1 (by omega) (by omega) h2 k2).mono fun e W' ⟨v, he, hn, hb⟩ => ⟨v, he, hn.num hl, hn, hb⟩
theorem norm_num (hA : Num w va M i) (hi : i ≤ 17592186044416) :
    Calls Tryd.prog 12 #[va] w fun e W' => ∃ v, e = .returned v ∧ Num W' v M i ∧ New w.heap.size W' v (digs 18446744073709551616 M) ∧ Below w.heap.size w W' := by
  have hl := hA.lt
  obtain ⟨xs, h1, h2, rfl, h3⟩ := hA
  exact (norm_arg h1 (by omega) h2).mono fun e W' ⟨v, he, hn, hb⟩ => ⟨v, he, hn.num hl, hn, hb⟩
theorem same_new {n n' K : Nat} (hA : New n w va (digs 18446744073709551616 M)) (hB : New n' w vb (digs 18446744073709551616 N)) (h : M = N) (hM : M < 18446744073709551616 ^ K) (hK : K ≤ 9223372036854775806) :
    Calls Tryd.prog 11 #[va, vb] w fun e W' => e = .returned (.bool true) ∧ Below w.heap.size w W' := by
  subst h
  exact same_arg hA.arg hB.arg (Nat.le_trans (digs_length (by decide) hM) hK)
end
theorem New.slice {n : Nat} {W : World} {v : Value} {xs : List Nat} (h : New n W v xs) : ∃ a cap, v = .slice a xs.length cap ∧ xs.length ≤ cap := by
  obtain ⟨S, h1, _⟩ := h
  obtain ⟨a, cap, e, h2, _⟩ := h1.slice
  exact ⟨a, cap, e, h2⟩
end Go.Proofs.YtppbifijgkcpjaaDoor
