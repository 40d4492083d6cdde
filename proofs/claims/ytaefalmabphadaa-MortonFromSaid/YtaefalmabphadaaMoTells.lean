/- vernierlaw16.MortonTells, walked. -/
import Derived.Test.YtaefalmabphadaaMoGat
namespace Go.Proofs.Ytaefalmabphadaa
open Go.RowKit Go.Shelf
theorem below_same' {w w' : World} (h : w = w') : Below w.heap.size w w' := h ▸ Below.refl _ _
theorem idxOK_nat {i j t : Int} (h : idxOK i j t = true) : ∃ a b c : Nat, i = a ∧ j = b ∧ t = c ∧ a < 65536 ∧ b < 65536 ∧ 1 ≤ c ∧ c ≤ 8 := by
  have h := of_decide_eq_true h
  exact ⟨i.toNat, j.toNat, t.toNat, by omega, by omega, by omega, by omega, by omega, by omega, by omega⟩
/-- what Side and Size tell, and the law's own side -/
def sidN (R C t : Int) : Nat := if sideOK R C t then sdn (max R.toNat C.toNat) t.toNat else 0
def sizM (R C t : Int) : Nat := if sideOK R C t then sizN (max R.toNat C.toNat) t.toNat else 0
def sidE (R C t : Int) : Int := if sideOK R C t then 0 else 11
theorem sideOK_nat {R C t : Int} (h : sideOK R C t = true) : ∃ a b c : Nat, R = a ∧ C = b ∧ t = c ∧ 1 ≤ a ∧ a ≤ 64 ∧ 1 ≤ b ∧ b ≤ 64 ∧ 1 ≤ c ∧ c ≤ 8 := by
  have h := of_decide_eq_true h
  exact ⟨R.toNat, C.toNat, t.toNat, by omega, by omega, by omega, by omega, by omega, by omega, by omega, by omega, by omega⟩
theorem side_any {R C t : Int} (w : World) : Calls Try.prog 35 #[.int .i64 R, .int .i64 C, .int .i64 t] w fun e W' => e = .returned (.tuple #[.int .i64 ((sidN R C t : Nat) : Int), .int .i64 (sidE R C t)]) ∧ w = W' := by
  cases h : sideOK R C t
  · have := mo_side_no (w := w) h
    unfold sidN sidE; rw [h]; exact this
  · unfold sidN sidE; rw [h]
    obtain ⟨a, b, c, rfl, rfl, rfl, h1, h2, h3, h4, h5, h6⟩ := sideOK_nat h
    exact mo_side h1 h2 h3 h4 h5 h6
theorem size_any {R C t : Int} (h1 : -9223372036854775808 ≤ t) (h2 : t ≤ 9223372036854775807) (w : World) : Calls Try.prog 36 #[.int .i64 R, .int .i64 C, .int .i64 t] w fun e W' => e = .returned (.tuple #[.int .i64 ((sizM R C t : Nat) : Int), .int .i64 (sidE R C t)]) ∧ w = W' := by
  cases h : sideOK R C t
  · have := mo_size_no (w := w) h h1 h2
    unfold sizM sidE; rw [h]; exact this
  · unfold sizM sidE; rw [h]
    obtain ⟨a, b, c, rfl, rfl, rfl, h1, h2, h3, h4, h5, h6⟩ := sideOK_nat h
    exact mo_size h1 h2 h3 h4 h5 h6
theorem lside_any {R C t : Int} (w : World) : Calls Try.prog 37 #[.int .i64 R, .int .i64 C, .int .i64 t] w fun e W' => e = .returned (.int .i64 ((sidN R C t : Nat) : Int)) ∧ w = W' := by
  cases h : sideOK R C t
  · have := l_side_no (w := w) h
    unfold sidN; rw [h]; exact this
  · unfold sidN; rw [h]
    obtain ⟨a, b, c, rfl, rfl, rfl, h1, h2, h3, h4, h5, h6⟩ := sideOK_nat h
    exact l_side h1 h2 h3 h4 h5 h6
def plZ (i j t : Int) : Int := if idxOK i j t then (plc i.toNat j.toNat t.toNat : Nat) else -1
theorem index_any {i j t : Int} (w : World) : Calls Try.prog 40 #[.int .i64 i, .int .i64 j, .int .i64 t] w fun e W' => e = .returned (.int .i64 (plZ i j t)) ∧ Below w.heap.size w W' := by
  cases h : idxOK i j t
  · refine (mo_index_no (w := w) h).mono ?_
    rintro e W' ⟨h1, h2⟩
    refine ⟨?_, below_same' h2⟩
    unfold plZ; rw [h]; exact h1
  · unfold plZ; rw [h]
    obtain ⟨a, b, c, rfl, rfl, rfl, h1, h2, h3, h4⟩ := idxOK_nat h
    refine (mo_index (w := w) h1 h2 h3 h4).mono ?_
    rintro e W' ⟨h1, n, rfl⟩
    exact ⟨h1, below_drewN _ _ _⟩
/-- the four tests of sides and sizes -/
theorem sides_hold {R C t : Int} : (sizM R C t = sidN R C t * sidN R C t * t.toNat * t.toNat) ∧ (sideOK R C t = true → sidN R C t ≤ 64 ∧ 0 < sidN R C t ∧ 0 ≤ t ∧ t ≤ 8 ∧ sidE R C t = 0) ∧ (sideOK R C t = false → sidN R C t = 0 ∧ sidE R C t = 11 ∧ sizM R C t = 0) := by
  unfold sizM sidN sidE
  cases h : sideOK R C t
  · simp
  · obtain ⟨a, b, c, rfl, rfl, rfl, h1, h2, h3, h4, h5, h6⟩ := sideOK_nat h
    obtain ⟨k, k1, k2, _⟩ := sdn_pow (M := max a b) (t := c) (by omega) h5
    have h3 : sdn (max a b) c ≤ 64 := by rw [k2]; exact Nat.pow_le_pow_right (n := 2) (by decide) k1
    have h4 : 0 < sdn (max a b) c := by rw [k2]; exact Nat.two_pow_pos _
    refine ⟨rfl, fun _ => ⟨h3, h4, by omega, by omega, rfl⟩, fun h => by cases h⟩
/-- the law's tests of sides, sizes, as the walk spells them -/
structure SideFacts (D Z : Nat) (E t : Int) : Prop where
  p1 : IntKind.i64.wrap ((D : Int) * (D : Int)) = ((D * D : Nat) : Int)
  p2 : IntKind.i64.wrap (((D * D : Nat) : Int) * t) = ((D * D * t.toNat : Nat) : Int)
  p3 : IntKind.i64.wrap (((D * D * t.toNat : Nat) : Int) * t) = (Z : Int)
  q : (E = 0 ∧ 0 < D) ∨ (E = 11 ∧ D = 0 ∧ Z = 0)
theorem side_facts' {R C t : Int} (h1 : -9223372036854775808 ≤ t) (h2 : t ≤ 9223372036854775807) : SideFacts (sidN R C t) (sizM R C t) (sidE R C t) t := by
  obtain ⟨e, hy, hn⟩ := sides_hold (R := R) (C := C) (t := t)
  cases h : sideOK R C t
  · obtain ⟨a, b, c⟩ := hn h
    rw [a, b, c]
    refine ⟨?_, ?_, ?_, .inr ⟨rfl, rfl, rfl⟩⟩
    · decide
    · rw [show (0 * 0 * t.toNat : Nat) = 0 by simp, show ((0 * 0 : Nat) : Int) = 0 from rfl, Int.zero_mul]; decide
    · rw [show (0 * 0 * t.toNat : Nat) = 0 by simp, show ((0 : Nat) : Int) = 0 from rfl, Int.zero_mul]; decide
  · obtain ⟨a, b, c, d, f⟩ := hy h
    rw [f, e]
    generalize sidN R C t = D at *
    obtain ⟨T, rfl⟩ : ∃ T : Nat, t = T := ⟨t.toNat, by omega⟩
    rw [Int.toNat_natCast]
    have b1 := Nat.mul_le_mul a a
    have b2 := Nat.mul_le_mul b1 (show T ≤ 8 by omega)
    have b3 := Nat.mul_le_mul b2 (show T ≤ 8 by omega)
    refine ⟨?_, ?_, ?_, .inl ⟨rfl, b⟩⟩
    · rw [← Int.natCast_mul]; exact IntWalk.i64_in _ (by omega)
    · rw [Int.toNat_natCast, ← Int.natCast_mul]; exact IntWalk.i64_in _ (by omega)
    · rw [Int.toNat_natCast, ← Int.natCast_mul]; exact IntWalk.i64_in _ (by omega)
end Go.Proofs.Ytaefalmabphadaa
