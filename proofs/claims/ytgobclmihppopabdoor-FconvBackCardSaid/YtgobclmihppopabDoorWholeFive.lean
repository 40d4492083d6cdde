/- whole's Of; vernierlaw03's same, alive, parts, made. -/
import Derived.Test.YtgobclmihppopabDoorWhole
import Derived.Lib.Hide
import Derived.IntWalk
namespace Go.Proofs.YtgobclmihppopabDoor
open Go.RowKit Go.Shelf
attribute [local go_sem ↓] Go.wp_at_zero Go.wp_at_succ

theorem num_one (W : World) (x : Nat) (hx : x < 18446744073709551616) : Num (W.alloc (.cells #[.int .u64 x] 22)) (.slice (some ⟨W.heap.size, 0, none⟩) 1 1) x 1 :=
  ⟨[x], ⟨W.heap.size, by simp, (Row.new W .u64 22 [x]).rd 1 (by simp)⟩, by intro y hy; simp at hy; omega, by simp [val], by simp⟩
theorem wn_of (n : Int) : wn (decide (n < 0)) n.natAbs = n := by
  unfold wn
  by_cases h : n < 0 <;> simp [h] <;> omega
theorem WNew.both {n : Nat} {w : World} {s : Bool} {v : Value} {z : Int} (h : WNew n w (.agg #[.bool s, v]) z) : s = decide (z < 0) ∧ New n w v (digs 18446744073709551616 z.natAbs) := by
  obtain ⟨u, h1, h2⟩ := h
  simp only [Value.agg.injEq, Array.mk.injEq, List.cons.injEq, Value.bool.injEq, and_true] at h1
  obtain ⟨rfl, rfl⟩ := h1
  exact ⟨rfl, h2⟩
theorem New.one {n : Nat} {W : World} {a : Option Addr} {m cap x : Nat} (h : New n W (.slice a m cap) [x]) : ∃ S off, a = some ⟨S, off, none⟩ ∧ m = 1 ∧ W.cell? ⟨S, off, none⟩ = some (.int .u64 x) := by
  obtain ⟨S, h1, _⟩ := h
  rcases h1 with ⟨_, h⟩ | ⟨off, c, e, hl, hc⟩
  · cases h
  · cases e
    exact ⟨S, off, rfl, rfl, hc 0 (by simp)⟩
/-- what is above 0 of a whole number, and what is below -/
def up (z : Int) : Nat := z.toNat
theorem up_of (s : Bool) (M : Nat) : up (wn s M) = if s then 0 else M := by cases s <;> simp [up, wn]
theorem up_neg (s : Bool) (M : Nat) : up (-wn s M) = if s then M else 0 := by cases s <;> simp [up, wn]
theorem rn_nil {w : World} (h : 0 < w.heap.size) : RN w (.slice none 0 0) 0 0 := by
  refine ⟨⟨0, h, ?_⟩, by simp⟩
  rw [digs_zero]
  exact .inl ⟨⟨_, _, rfl⟩, rfl⟩
end Go.Proofs.YtgobclmihppopabDoor
