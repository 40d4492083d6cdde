/- The document's own naturals, said of numbers; and more of the program's calls, said of numbers. -/
import Derived.Test.YthipbonhkcjcfaaDoorNums
import Derived.Test.YthipbonhkcjcfaaDoorRefCut
import Derived.Test.YthipbonhkcjcfaaDoorRefAdd
import Derived.Test.YthipbonhkcjcfaaDoorRefMul
namespace Go.Proofs.YthipbonhkcjcfaaDoor
open Go.RowKit Go.Shelf

/-- v is told as the number N of the document's own, in at most k digits -/
def RN (w : World) (v : Value) (N k : Nat) : Prop := IArg w v (digs 65536 N) ∧ N < 65536 ^ k
theorem RN.behind {w w' : World} {v : Value} {N k : Nat} (h : RN w v N k) (hb : Below w.heap.size w w') : RN w' v N k := ⟨h.1.behind hb, h.2⟩
theorem RN.len {w : World} {v : Value} {N k : Nat} (h : RN w v N k) : (digs 65536 N).length ≤ k := digs_length (by decide) h.2
theorem RN.slice {w : World} {v : Value} {N k : Nat} (h : RN w v N k) : ∃ a cap, v = .slice a (digs 65536 N).length cap ∧ (digs 65536 N).length ≤ cap := by
  obtain ⟨⟨S, _, h2⟩, _⟩ := h
  obtain ⟨a, cap, e, h3, _⟩ := h2.slice
  exact ⟨a, cap, e, h3⟩
theorem pow16_64 (k : Nat) : 18446744073709551616 ^ k = 65536 ^ (4 * k) := by rw [Nat.pow_mul]
theorem rpow_add_lt {M N i j : Nat} (hM : M < 65536 ^ i) (hN : N < 65536 ^ j) : M + N < 65536 ^ (i + j + 1) := by
  have h1 : 65536 ^ i ≤ 65536 ^ (i + j) := Nat.pow_le_pow_right (by decide) (by omega)
  have h2 : 65536 ^ j ≤ 65536 ^ (i + j) := Nat.pow_le_pow_right (by decide) (by omega)
  rw [Nat.pow_succ]
  omega
theorem rpow_mul_lt {M N i j : Nat} (hM : M < 65536 ^ i) (hN : N < 65536 ^ j) : M * N < 65536 ^ (i + j) := by
  rw [Nat.pow_add]
  exact Nat.mul_lt_mul'' hM hN
theorem rpow_dist_lt {M N i j : Nat} (hM : M < 65536 ^ i) (hN : N < 65536 ^ j) : dist M N < 65536 ^ (i + j) := by
  have h1 : 65536 ^ i ≤ 65536 ^ (i + j) := Nat.pow_le_pow_right (by decide) (by omega)
  have h2 : 65536 ^ j ≤ 65536 ^ (i + j) := Nat.pow_le_pow_right (by decide) (by omega)
  unfold dist
  omega
section
variable {va vb : Value} {M N i j : Nat} {w : World}
theorem of_num (hA : Num w va M i) (hi : i ≤ 4398046511104) :
    Calls Tryd.prog 15 #[va] w fun e W' => ∃ v, e = .returned v ∧ RN W' v M (4 * i) ∧ Below w.heap.size w W' := by
  have hlt := hA.lt
  rw [pow16_64] at hlt
  obtain ⟨xs, ⟨b, h1, h2⟩, h3, rfl, h4⟩ := hA
  exact (of_calls b va xs (by omega) h3 w h1 h2).mono fun e W' ⟨v, he, hr, hb⟩ => ⟨v, he, ⟨hr, hlt⟩, hb⟩
theorem limbs_num (hA : RN w va M i) (hi : i ≤ 70368744177664) :
    Calls Tryd.prog 39 #[va] w fun e W' => ∃ v, e = .returned v ∧ New w.heap.size W' v (digs 18446744073709551616 M) ∧ Below w.heap.size w W' := by
  have hl := hA.len
  obtain ⟨⟨S, h1, h2⟩, _⟩ := hA
  exact limbs_calls S va M (by omega) w h1 h2
theorem radd_num (hA : RN w va M i) (hB : RN w vb N j) (hi : i ≤ 4398046511104) (hj : j ≤ 4398046511104) :
    Calls Tryd.prog 35 #[va, vb] w fun e W' => ∃ v, e = .returned v ∧ RN W' v (M + N) (i + j + 1) ∧ Below w.heap.size w W' := by
  have hl := hA.len
  have hm := hB.len
  obtain ⟨⟨S, h1, h2⟩, h3⟩ := hA
  obtain ⟨⟨T, k1, k2⟩, k3⟩ := hB
  exact (refAdd_calls S T va vb M N (by omega) (by omega) w h1 k1 h2 k2).mono fun e W' ⟨v, he, hr, hb⟩ => ⟨v, he, ⟨hr, rpow_add_lt h3 k3⟩, hb⟩
theorem rsub_num (hA : RN w va M i) (hB : RN w vb N j) (hi : i ≤ 4398046511104) (hj : j ≤ 4398046511104) :
    Calls Tryd.prog 37 #[va, vb] w fun e W' => ∃ v, e = .returned v ∧ RN W' v (dist M N) (i + j) ∧ Below w.heap.size w W' := by
  have hl := hA.len
  have hm := hB.len
  obtain ⟨⟨S, h1, h2⟩, h3⟩ := hA
  obtain ⟨⟨T, k1, k2⟩, k3⟩ := hB
  exact (refSub_calls S T va vb M N (by omega) (by omega) w h1 k1 h2 k2).mono fun e W' ⟨v, he, hr, hb⟩ => ⟨v, he, ⟨hr, rpow_dist_lt h3 k3⟩, hb⟩
theorem rmul_num (hA : RN w va M i) (hB : RN w vb N j) (hi : i ≤ 4398046511104) (hj : j ≤ 4398046511104) :
    Calls Tryd.prog 18 #[va, vb] w fun e W' => ∃ v, e = .returned v ∧ RN W' v (M * N) (i + j) ∧ Below w.heap.size w W' := by
  have hl := hA.len
  have hm := hB.len
  obtain ⟨⟨S, h1, h2⟩, h3⟩ := hA
  obtain ⟨⟨T, k1, k2⟩, k3⟩ := hB
  exact (refMul_calls S T va vb M N (by omega) (by omega) w h1 k1 h2 k2).mono fun e W' ⟨v, he, hr, hb⟩ => ⟨v, he, ⟨hr, rpow_mul_lt h3 k3⟩, hb⟩
theorem rcmp_num (hA : RN w va M i) (hB : RN w vb N j) (hi : i ≤ 4398046511104) (hj : j ≤ 4398046511104) :
    Calls Tryd.prog 36 #[va, vb] w fun e W' => e = .returned (.int .i64 (cmpN M N)) ∧ Below w.heap.size w W' := by
  have hl := hA.len
  have hm := hB.len
  obtain ⟨⟨S, h1, h2⟩, h3⟩ := hA
  obtain ⟨⟨T, k1, k2⟩, k3⟩ := hB
  exact (refCmp_calls S T va vb M N (by omega) (by omega) w h2 k2).mono fun e W' ⟨he, q, hq⟩ => ⟨he, hq ▸ below_drewN _ _ _⟩
theorem rbits_num (hA : RN w va M i) (hi : i ≤ 70368744177664) :
    Calls Tryd.prog 26 #[va] w fun e W' => e = .returned (.int .i64 (nbits M : Int)) ∧ Below w.heap.size w W' := by
  have hl := hA.len
  obtain ⟨⟨S, h1, h2⟩, h3⟩ := hA
  exact (refBits_calls S va M (by omega) w h2).mono fun e W' ⟨he, hw⟩ => ⟨he, hw ▸ Below.refl _ _⟩
end
end Go.Proofs.YthipbonhkcjcfaaDoor
