/- vernierref01.Div: the document's own division, bit by bit. -/
import Derived.Test.YtgobclmihppopabRefShl
import Derived.Lib.Hide
namespace Go.Proofs.Ytgobclmihppopab
open Go.RowKit Go.Shelf

theorem lim_digs {B : Nat} (hB : 1 < B) (n j : Nat) : lim (digs B n) j = n / B ^ j % B := by
  induction j generalizing n with
  | zero =>
    by_cases hn : n = 0
    · subst hn; rw [digs_zero]; simp [lim]
    · rw [digs_pos hB hn, lim_cons_zero]; simp
  | succ j ih =>
    by_cases hn : n = 0
    · subst hn; rw [digs_zero]; simp [lim]
    · rw [digs_pos hB hn, lim_cons_succ, ih, Nat.div_div_eq_div_mul, Nat.pow_succ, Nat.mul_comm B]
theorem bit_of (A i : Nat) : lim (digs 65536 A) (i / 16) / 2 ^ (i % 16) % 2 = A / 2 ^ i % 2 := by
  rw [lim_digs (by decide)]
  have h1 : 2 ^ i = 65536 ^ (i / 16) * 2 ^ (i % 16) := by
    rw [show 65536 = 2 ^ 16 from rfl, ← Nat.pow_mul, ← Nat.pow_add, Nat.div_add_mod]
  rw [h1, ← Nat.div_div_eq_div_mul]
  generalize A / 65536 ^ (i / 16) = d
  have hs : i % 16 < 16 := Nat.mod_lt _ (by decide)
  generalize i % 16 = s at *
  have h2 : 65536 = 2 ^ s * (2 * 2 ^ (15 - s)) := by
    rw [← Nat.pow_succ', ← Nat.pow_add, show s + (15 - s).succ = 16 by omega]
  rw [h2, Nat.mod_mul_right_div_self, Nat.mod_mul_right_mod]
theorem div_bit {A B i : Nat} (hB : 0 < B) :
    A / 2 ^ i / B = (if B ≤ 2 * (A / 2 ^ (i + 1) % B) + A / 2 ^ i % 2 then 2 * (A / 2 ^ (i + 1) / B) + 1 else 2 * (A / 2 ^ (i + 1) / B)) ∧
    A / 2 ^ i % B = (if B ≤ 2 * (A / 2 ^ (i + 1) % B) + A / 2 ^ i % 2 then 2 * (A / 2 ^ (i + 1) % B) + A / 2 ^ i % 2 - B else 2 * (A / 2 ^ (i + 1) % B) + A / 2 ^ i % 2) := by
  have e : A / 2 ^ (i + 1) = A / 2 ^ i / 2 := by rw [Nat.div_div_eq_div_mul, ← Nat.pow_succ]
  rw [e]
  generalize A / 2 ^ i = d
  have h1 := Nat.div_add_mod d 2
  have h2 := Nat.div_add_mod (d / 2) B
  have h3 := Nat.mod_lt (d / 2) hB
  have h4 := Nat.mod_lt d (show 0 < 2 by decide)
  generalize d / 2 / B = q at *
  generalize d / 2 % B = r at *
  generalize d % 2 = p at *
  have hd : d = B * (2 * q) + (2 * r + p) := by rw [Nat.mul_left_comm]; omega
  split
  · have hd2 : d = B * (2 * q + 1) + (2 * r + p - B) := by rw [Nat.mul_add]; omega
    have hl : 2 * r + p - B < B := by omega
    refine ⟨?_, ?_⟩
    · rw [hd2, Nat.mul_add_div hB, Nat.div_eq_of_lt hl] <;> try rfl
    · rw [hd2, Nat.mul_add_mod, Nat.mod_eq_of_lt hl]
  · have hl : 2 * r + p < B := by omega
    refine ⟨?_, ?_⟩
    · rw [hd, Nat.mul_add_div hB, Nat.div_eq_of_lt hl] <;> try rfl
    · rw [hd, Nat.mul_add_mod, Nat.mod_eq_of_lt hl]
theorem nbits16 {A k : Nat} (h : A < 65536 ^ k) : nbits A ≤ 16 * k := nbits_le (by rwa [show 65536 = 2 ^ 16 from rfl, ← Nat.pow_mul] at h)
theorem RN.re {w : World} {v : Value} {N k k' : Nat} (h : RN w v N k) (hk : N < 65536 ^ k') : RN w v N k' := ⟨h.1, hk⟩
section
variable {va vb : Value} {M N i j k : Nat} {w : World}
theorem rshl1 (hA : RN w va M i) (hi : i ≤ 4398046511103) (hk : 2 * M < 65536 ^ k) :
    Calls Try.prog 44 #[va, .int .i64 1] w fun e W' => ∃ v, e = .returned v ∧ RN W' v (2 * M) k ∧ Below w.heap.size w W' :=
  (rshl_num (m := 1) hA hi (by decide)).mono fun e W' ⟨v, he, hr, hb⟩ => ⟨v, he, RN.re (by rw [Nat.mul_comm]; exact hr) hk, hb⟩
theorem raddk (hA : RN w va M i) (hB : RN w vb N j) (hi : i ≤ 4398046511104) (hj : j ≤ 4398046511104) (hk : M + N < 65536 ^ k) :
    Calls Try.prog 75 #[va, vb] w fun e W' => ∃ v, e = .returned v ∧ RN W' v (M + N) k ∧ Below w.heap.size w W' :=
  (radd_num hA hB hi hj).mono fun _ _ ⟨v, he, hr, hb⟩ => ⟨v, he, hr.re hk, hb⟩
theorem rsubk (hA : RN w va M i) (hB : RN w vb N j) (hi : i ≤ 4398046511104) (hj : j ≤ 4398046511104) (hle : N ≤ M) (hk : M - N < 65536 ^ k) :
    Calls Try.prog 74 #[va, vb] w fun e W' => ∃ v, e = .returned v ∧ RN W' v (M - N) k ∧ Below w.heap.size w W' :=
  (rsub_num hA hB hi hj).mono fun e W' ⟨v, he, hr, hb⟩ => ⟨v, he, RN.re (by rw [← dist_ge hle]; exact hr) hk, hb⟩
theorem rcmpc {c : Int} (hA : RN w va M i) (hB : RN w vb N j) (hi : i ≤ 4398046511104) (hj : j ≤ 4398046511104) (h : cmpN M N = c) :
    Calls Try.prog 43 #[va, vb] w fun e W' => e = .returned (.int .i64 c) ∧ Below w.heap.size w W' := by
  subst h
  exact rcmp_num hA hB hi hj
theorem rcut1 (W : World) (p : Nat) (h : p < 65536) :
    Calls Try.prog 70 #[.slice (some ⟨W.heap.size, 0, none⟩) 1 1] (W.alloc (.cells #[.int .i64 (p : Int)] 3)) fun e W' => ∃ v, e = .returned v ∧ RN W' v p 1 ∧ Below (W.alloc (.cells #[.int .i64 (p : Int)] 3)).heap.size (W.alloc (.cells #[.int .i64 (p : Int)] 3)) W' := by
  have hI := (Row.new W .i64 3 [p]).iat 1 (by simp)
  refine (cut_calls W.heap.size _ [p] (by simp) _ hI).mono ?_
  rintro e W' ⟨v, he, hv, rfl⟩
  have hl : Low 65536 [p] := by intro x hx; simp at hx; omega
  rw [cutz_eq_digs (by decide) hl] at hv
  have e1 : val 65536 [p] = p := by simp [val]
  rw [e1] at hv
  exact ⟨v, he, ⟨⟨W.heap.size, by simp, hv⟩, by simpa using h⟩, Below.refl _ _⟩
end
end Go.Proofs.Ytgobclmihppopab
