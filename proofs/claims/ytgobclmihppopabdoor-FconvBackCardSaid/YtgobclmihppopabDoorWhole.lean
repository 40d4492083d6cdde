/- whole's calls: a natural and its sign. -/
import Derived.Test.YtgobclmihppopabDoorRefCut
import Derived.Deep.RegionHeld3
import Derived.Deep.DrawnRows
import Derived.Lib.Hide
import Derived.IntWalk
namespace Go.Proofs.YtgobclmihppopabDoor
open Go.RowKit Go.Shelf
attribute [local go_sem ↓] Go.wp_at_zero Go.wp_at_succ

/-- the whole number of a sign and a natural -/
def wn (s : Bool) (M : Nat) : Int := if s then -(M : Int) else M
theorem wn_abs (s : Bool) (M : Nat) : (wn s M).natAbs = M := by cases s <;> simp [wn]
theorem digs_len_pos (M : Nat) : decide (0 < (digs 18446744073709551616 M).length) = decide (M ≠ 0) := by
  by_cases h : M = 0
  · subst h; rw [digs_zero]; rfl
  · rw [digs_pos (by decide) h]; simp [h]
theorem wn_neg (s : Bool) (M : Nat) : decide (wn s M < 0) = (s && decide (M ≠ 0)) := by
  rw [Bool.eq_iff_iff]; cases s <;> simp [wn]; omega
/-- v is told as the whole number z, in at most k words -/
def Wh (w : World) (v : Value) (z : Int) (k : Nat) : Prop := ∃ s u M, v = .agg #[.bool s, u] ∧ Num w u M k ∧ z = wn s M
/-- v is the whole number z as it is told, its words new -/
def WNew (n : Nat) (w : World) (v : Value) (z : Int) : Prop := ∃ u, v = .agg #[.bool (decide (z < 0)), u] ∧ New n w u (digs 18446744073709551616 z.natAbs)
theorem Wh.behind {w w' : World} {v : Value} {z : Int} {k : Nat} (h : Wh w v z k) (hb : Below w.heap.size w w') : Wh w' v z k := by
  obtain ⟨s, u, M, h1, h2, h3⟩ := h
  exact ⟨s, u, M, h1, h2.behind hb, h3⟩
theorem WNew.behind {n : Nat} {w w' : World} {v : Value} {z : Int} (h : WNew n w v z) (hb : Below w.heap.size w w') : WNew n w' v z := by
  obtain ⟨u, h1, h2⟩ := h
  exact ⟨u, h1, h2.behind hb⟩
theorem WNew.wh {n k : Nat} {w : World} {v : Value} {z : Int} (h : WNew n w v z) (hz : z.natAbs < 18446744073709551616 ^ k) : Wh w v z k := by
  obtain ⟨u, h1, h2⟩ := h
  refine ⟨_, u, _, h1, h2.num hz, ?_⟩
  unfold wn
  by_cases h : z < 0 <;> simp [h] <;> omega
theorem Wh.lt {w : World} {v : Value} {z : Int} {k : Nat} (h : Wh w v z k) : z.natAbs < 18446744073709551616 ^ k := by
  obtain ⟨s, u, M, _, h2, rfl⟩ := h
  rw [wn_abs]; exact h2.lt

theorem bel_alloc (W : World) (o : Obj) : Below W.heap.size W (W.alloc o) := (Below.refl _ _).alloc (Nat.le_refl _) o
theorem New.mono {n n' : Nat} {W : World} {v : Value} {xs : List Nat} (h : New n W v xs) (hn : n' ≤ n) : New n' W v xs := by
  obtain ⟨S, h1, h2, h3⟩ := h
  exact ⟨S, h1, h2, h3.imp id fun h => Nat.le_trans hn h⟩
theorem New.put {n : Nat} {W : World} {v : Value} {xs : List Nat} (h : New n W v xs) {p : Addr} (hp : p.block < n) (u : Value) : New n (W.setCell p u) v xs := by
  obtain ⟨S, h1, h2, h3⟩ := h
  have hz : (W.setCell p u).heap.size = W.heap.size := by simp [World.setCell]
  refine ⟨S, ?_, by omega, h3⟩
  rcases h3 with rfl | h3
  · rcases h1 with h1 | ⟨_, _, e, _⟩
    · exact .inl h1
    · cases e
  · exact h1.kept (Below.heap_setCell _ _ _ _ (by omega))
theorem wend {w W : World} {n r : Nat} {ta : Option Addr} {tm tc : Nat} {z : Int} (hB : Below w.heap.size w W) (hr : w.heap.size ≤ r) (hn : r < n) (nt : New n W (.slice ta tm tc) (digs 18446744073709551616 z.natAbs)) (hz : z = z) :
    ∃ b a m c, (Ending.returned (.agg #[.bool (decide (z < 0)), .slice ta tm tc])) = .returned (.agg #[.bool b, .slice a m c]) ∧ WNew w.heap.size ((W.setCell ⟨r, 0, none⟩ (.bool (decide (z < 0)))).setCell ⟨r, 1, none⟩ (.slice ta tm tc)) (.agg #[.bool b, .slice a m c]) z ∧ Below w.heap.size w ((W.setCell ⟨r, 0, none⟩ (.bool (decide (z < 0)))).setCell ⟨r, 1, none⟩ (.slice ta tm tc)) :=
  ⟨_, _, _, _, rfl, ⟨_, rfl, ((nt.put hn _).put hn _).mono (by omega)⟩, (hB.setCell hr _).setCell hr _⟩
end Go.Proofs.YtgobclmihppopabDoor

/- whole's calls that choose: Add of unlike signs, Sub, Sign, Cmp, Of. -/
namespace Go.Proofs.YtgobclmihppopabDoor
open Go.RowKit Go.Shelf
attribute [local go_sem ↓] Go.wp_at_zero Go.wp_at_succ
theorem unlike_wn (s : Bool) (M N : Nat) : wn (bif decide (0 ≤ cmpN M N) then s else !s) (dist M N) = wn s M + wn (!s) N := by
  rcases Nat.lt_or_ge M N with h | h
  · rw [cmpN_lt h]; cases s <;> simp [wn, dist] <;> omega
  · have h2 : 0 ≤ cmpN M N := by
      unfold cmpN; rw [if_neg (by omega)]; split <;> omega
    rw [decide_eq_true h2]; cases s <;> simp [wn, dist] <;> omega
theorem bel_ad (W : World) (o : Obj) : Below W.drew.heap.size W.drew (W.alloc o).drew := bel_alloc W.drew o

end Go.Proofs.YtgobclmihppopabDoor

/- whole's Add, Sub, Sign, Cmp, Of over whole numbers. -/
namespace Go.Proofs.YtgobclmihppopabDoor
open Go.RowKit Go.Shelf
attribute [local go_sem ↓] Go.wp_at_zero Go.wp_at_succ

/-- v is told as the whole number z, in at most k words -/
def Wv (w : World) (s : Bool) (a : Option Addr) (m cap : Nat) (z : Int) (k : Nat) : Prop := ∃ M, Num w (.slice a m cap) M k ∧ z = wn s M
theorem Wv.behind {w w' : World} {s : Bool} {a : Option Addr} {m cap : Nat} {z : Int} {k : Nat} (h : Wv w s a m cap z k) (hb : Below w.heap.size w w') : Wv w' s a m cap z k := by
  obtain ⟨M, h1, h2⟩ := h
  exact ⟨M, h1.behind hb, h2⟩
theorem wn_not (s : Bool) (M : Nat) : wn (!s) M = -wn s M := by cases s <;> simp [wn]
theorem wn_mul (s t : Bool) (M N : Nat) : wn (!s == t) (M * N) = wn s M * wn t N := by cases s <;> cases t <;> simp [wn, Int.neg_mul, Int.mul_neg]
theorem WNew.wv {n k : Nat} {w : World} {s : Bool} {a : Option Addr} {m cap : Nat} {z : Int} (h : WNew n w (.agg #[.bool s, .slice a m cap]) z) (hz : z.natAbs < 18446744073709551616 ^ k) : Wv w s a m cap z k := by
  obtain ⟨u, h1, h2⟩ := h
  simp only [Value.agg.injEq, Array.mk.injEq, List.cons.injEq, Value.bool.injEq, and_true] at h1
  obtain ⟨rfl, rfl⟩ := h1
  refine ⟨_, h2.num hz, ?_⟩
  unfold wn
  by_cases h : z < 0 <;> simp [h] <;> omega
theorem Wv.lt {w : World} {s : Bool} {a : Option Addr} {m cap : Nat} {z : Int} {k : Nat} (h : Wv w s a m cap z k) : z.natAbs < 18446744073709551616 ^ k := by
  obtain ⟨M, h2, rfl⟩ := h
  rw [wn_abs]; exact h2.lt
def WPost (w : World) (z : Int) (k : Nat) (e : Ending) (W' : World) : Prop := ∃ b a m c, e = .returned (.agg #[.bool b, .slice a m c]) ∧ Wv W' b a m c z k ∧ WNew w.heap.size W' (.agg #[.bool b, .slice a m c]) z ∧ Below w.heap.size w W'
theorem WPost.mk {w : World} {z : Int} {k : Nat} {e : Ending} {W' : World} (hz : z.natAbs < 18446744073709551616 ^ k) (h : ∃ b a m c, e = .returned (.agg #[.bool b, .slice a m c]) ∧ WNew w.heap.size W' (.agg #[.bool b, .slice a m c]) z ∧ Below w.heap.size w W') : WPost w z k e W' := by
  obtain ⟨b, a, m, c, h1, h2, h3⟩ := h
  exact ⟨b, a, m, c, h1, h2.wv hz, h2, h3⟩
theorem pow_max_lt {M N i j : Nat} (hM : M < 18446744073709551616 ^ i) (hN : N < 18446744073709551616 ^ j) : M + N < 18446744073709551616 ^ (max i j + 1) := by
  have h1 : 18446744073709551616 ^ i ≤ 18446744073709551616 ^ (max i j) := Nat.pow_le_pow_right (by decide) (by omega)
  have h2 : 18446744073709551616 ^ j ≤ 18446744073709551616 ^ (max i j) := Nat.pow_le_pow_right (by decide) (by omega)
  rw [Nat.pow_succ]
  omega
section
variable {s t : Bool} {a a' : Option Addr} {m cap m' cap' : Nat} {x y : Int} {i j : Nat} {w : World}
end

end Go.Proofs.YtgobclmihppopabDoor

/- whole's Sign, Cmp, Of. -/
namespace Go.Proofs.YtgobclmihppopabDoor
open Go.RowKit Go.Shelf
attribute [local go_sem ↓] Go.wp_at_zero Go.wp_at_succ

theorem cmpZ_zero (s : Bool) {M : Nat} (h : M ≠ 0) : cmpZ (wn s M) 0 = if s then -1 else 1 := by
  cases s <;> simp [cmpZ, wn] <;> omega
theorem bits_num0 {va : Value} {i : Nat} {w : World} (hA : Num w va 0 i) (hi : i ≤ 17592186044416) :
    Calls Tryd.prog 20 #[va] w fun e W' => e = .returned (.int .i64 0) ∧ Below w.heap.size w W' := bits_num hA hi
/-- what two whole numbers that have one sign are to each other -/
theorem cmp_one (s t : Bool) (M N : Nat) (h : cmpZ (wn s M) 0 = cmpZ (wn t N) 0) : cmpZ (wn s M) (wn t N) = cmpZ (wn s M) 0 * cmpN M N := by
  rw [← cmpZ_nat]
  revert h
  unfold cmpZ wn
  cases s <;> cases t <;> simp <;> (repeat' split) <;> intros <;> omega
theorem cmp_two (x y : Int) (h : cmpZ x 0 ≠ cmpZ y 0) : cmpZ x y = cmpZ (cmpZ x 0) (cmpZ y 0) := by
  revert h
  unfold cmpZ
  (repeat' split) <;> intros <;> omega
theorem cmpZ_bd (x y : Int) : -1 ≤ cmpZ x y ∧ cmpZ x y ≤ 1 := by
  unfold cmpZ
  (repeat' split) <;> omega
theorem cmpN_bd (x y : Nat) : -1 ≤ cmpN x y ∧ cmpN x y ≤ 1 := by
  unfold cmpN
  (repeat' split) <;> omega
theorem mul_wrap {p q : Int} (hp : -1 ≤ p ∧ p ≤ 1) (hq : -1 ≤ q ∧ q ≤ 1) : IntKind.i64.wrap (p * q) = p * q := by
  have h1 : p = -1 ∨ p = 0 ∨ p = 1 := by omega
  have h2 : q = -1 ∨ q = 0 ∨ q = 1 := by omega
  rcases h1 with rfl | rfl | rfl <;> rcases h2 with rfl | rfl | rfl <;> rfl
end Go.Proofs.YtgobclmihppopabDoor
