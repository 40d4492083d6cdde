/- whole's Of; vernierlaw03's same, alive, parts, made. -/
import Derived.Test.YthipbonhkcjcfaaDoorWholeTwo
import Derived.Lib.Hide
import Derived.IntWalk
namespace Go.Proofs.YthipbonhkcjcfaaDoor
open Go.RowKit Go.Shelf
attribute [local go_sem ↓] Go.wp_at_zero Go.wp_at_succ

theorem num_one (W : World) (x : Nat) (hx : x < 18446744073709551616) : Num (W.alloc (.cells #[.int .u64 x] 45)) (.slice (some ⟨W.heap.size, 0, none⟩) 1 1) x 1 :=
  ⟨[x], ⟨W.heap.size, by simp, (Row.new W .u64 45 [x]).rd 1 (by simp)⟩, by intro y hy; simp at hy; omega, by simp [val], by simp⟩
theorem size_word (n : Int) (h1 : -9223372036854775808 ≤ n) (h2 : n < 9223372036854775808) (w : World) :
    Calls Tryd.prog 56 #[.bool (decide (n < 0)), .int .u64 (IntKind.u64.wrap (-IntKind.u64.wrap n)), .int .u64 (IntKind.u64.wrap n)] w fun e W' => e = .returned (.int .u64 (n.natAbs : Int)) ∧ w = W' := by
  refine (either_word _ _ _ w).mono fun e W' ⟨he, hw⟩ => ⟨?_, hw⟩
  rw [he]
  by_cases h : n < 0
  · rw [decide_eq_true h, if_pos rfl]
    refine ret_int ?_
    rw [IntKind.wrap_u64, IntKind.wrap_u64]; omega
  · rw [decide_eq_false h, if_neg (by simp)]
    refine ret_int ?_
    rw [IntKind.wrap_u64]; omega
theorem wn_of (n : Int) : wn (decide (n < 0)) n.natAbs = n := by
  unfold wn
  by_cases h : n < 0 <;> simp [h] <;> omega
set_option maxRecDepth 100000 in
theorem zof (n : Int) (h1 : -9223372036854775808 ≤ n) (h2 : n < 9223372036854775808) (w : World) :
    Calls Tryd.prog 41 #[.int .i64 n] w (WPost w n 1) := by
  have hn : n.natAbs < 18446744073709551616 := by omega
  have hB := bel_alloc w (.cells #[.bool false, .slice none 0 0] 57)
  have R := Bx.new w (.bool false) (.slice none 0 0)
  have hsz : w.heap.size < (w.alloc (.cells #[.bool false, .slice none 0 0] 57)).heap.size := by rw [World.size_alloc]; omega
  go_enter Tryd.func41, Tryd.ntmps41
  go_wp2_with fail
  generalize (w.alloc (.cells #[.bool false, .slice none 0 0] 57)) = W0 at hB R hsz ⊢
  refine (size_word n h1 h2 _).mono ?_
  rintro e w1 ⟨rfl, rfl⟩
  have hN := num_one W0 n.natAbs hn
  have b1 := bel_alloc W0 (.cells #[.int .u64 (n.natAbs : Int)] 45)
  have R1 := R.behind b1
  have B1 := below_both hB b1
  go_wp2_with fail
  generalize (W0.alloc (.cells #[.int .u64 (n.natAbs : Int)] 45)) = W1 at hN R1 B1 b1 ⊢
  refine (norm_num hN (by omega)).mono ?_
  rintro e w2 ⟨v, rfl, u2, n2, b2⟩
  have R2 := R1.behind b2
  have B2 := below_both B1 b2
  go_wp2_with fail
  refine (told_num n2).mono ?_
  rintro e w3 ⟨ta, tm, tc, rfl, nt, b3⟩
  have R3 := R2.behind b3
  have B3 := below_both B2 b3
  have r0 := R3.c0
  have r1 := R3.c1
  have r2 := R3.f 0
  have r3 := R3.f 1
  have z1 := b1.size
  rw [wn_of] at nt ⊢
  go_wp2_with fail
  exact bodyPost_ret (v := .agg #[.bool (decide (n < 0)), .slice ta tm tc]) (by simp [results, Tryd.results41, go_sem, r0, r1]) rfl (WPost.mk (by omega) (wend B3 (r := w.heap.size) (by omega) (by omega) nt (z := n) rfl))
theorem WNew.both {n : Nat} {w : World} {s : Bool} {v : Value} {z : Int} (h : WNew n w (.agg #[.bool s, v]) z) : s = decide (z < 0) ∧ New n w v (digs 18446744073709551616 z.natAbs) := by
  obtain ⟨u, h1, h2⟩ := h
  simp only [Value.agg.injEq, Array.mk.injEq, List.cons.injEq, Value.bool.injEq, and_true] at h1
  obtain ⟨rfl, rfl⟩ := h1
  exact ⟨rfl, h2⟩
theorem New.one {n : Nat} {W : World} {a : Option Addr} {m cap x : Nat} (h : New n W (.slice a m cap) [x]) : ∃ S off, a = some ⟨S, off, none⟩ ∧ m = 1 ∧ W.cell? ⟨S, off, none⟩ = some (.int .u64 x) := by
  obtain ⟨S, h1, _⟩ := h
  rcases h1 with ⟨_, h⟩ | ⟨off, c, e, hl, hc⟩
  · cases h
  · cases e
    exact ⟨S, off, rfl, rfl, hc 0 (by simp)⟩
/-- what is above 0 of a whole number, and what is below -/
def up (z : Int) : Nat := z.toNat
theorem up_of (s : Bool) (M : Nat) : up (wn s M) = if s then 0 else M := by cases s <;> simp [up, wn]
theorem up_neg (s : Bool) (M : Nat) : up (-wn s M) = if s then M else 0 := by cases s <;> simp [up, wn]
theorem rn_nil {w : World} (h : 0 < w.heap.size) : RN w (.slice none 0 0) 0 0 := by
  refine ⟨⟨0, h, ?_⟩, by simp⟩
  rw [digs_zero]
  exact .inl ⟨⟨_, _, rfl⟩, rfl⟩
end Go.Proofs.YthipbonhkcjcfaaDoor
