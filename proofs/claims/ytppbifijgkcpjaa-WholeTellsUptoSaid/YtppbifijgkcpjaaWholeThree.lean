/- whole's Add, Sub, Sign, Cmp, Of over whole numbers. -/
import Derived.Test.YtppbifijgkcpjaaWholeTwo
import Derived.Lib.Hide
import Derived.IntWalk
namespace Go.Proofs.Ytppbifijgkcpjaa
open Go.RowKit Go.Shelf
attribute [local go_sem ↓] Go.wp_at_zero Go.wp_at_succ

/-- v is told as the whole number z, in at most k words -/
def Wv (w : World) (s : Bool) (a : Option Addr) (m cap : Nat) (z : Int) (k : Nat) : Prop := ∃ M, Num w (.slice a m cap) M k ∧ z = wn s M
theorem Wv.behind {w w' : World} {s : Bool} {a : Option Addr} {m cap : Nat} {z : Int} {k : Nat} (h : Wv w s a m cap z k) (hb : Below w.heap.size w w') : Wv w' s a m cap z k := by
  obtain ⟨M, h1, h2⟩ := h
  exact ⟨M, h1.behind hb, h2⟩
theorem wn_not (s : Bool) (M : Nat) : wn (!s) M = -wn s M := by cases s <;> simp [wn]
theorem wn_mul (s t : Bool) (M N : Nat) : wn (!s == t) (M * N) = wn s M * wn t N := by cases s <;> cases t <;> simp [wn, Int.neg_mul, Int.mul_neg]
theorem WNew.wv {n k : Nat} {w : World} {s : Bool} {a : Option Addr} {m cap : Nat} {z : Int} (h : WNew n w (.agg #[.bool s, .slice a m cap]) z) (hz : z.natAbs < 18446744073709551616 ^ k) : Wv w s a m cap z k := by
  obtain ⟨u, h1, h2⟩ := h
  simp only [Value.agg.injEq, Array.mk.injEq, List.cons.injEq, Value.bool.injEq, and_true] at h1
  obtain ⟨rfl, rfl⟩ := h1
  refine ⟨_, h2.num hz, ?_⟩
  unfold wn
  by_cases h : z < 0 <;> simp [h] <;> omega
theorem Wv.lt {w : World} {s : Bool} {a : Option Addr} {m cap : Nat} {z : Int} {k : Nat} (h : Wv w s a m cap z k) : z.natAbs < 18446744073709551616 ^ k := by
  obtain ⟨M, h2, rfl⟩ := h
  rw [wn_abs]; exact h2.lt
def WPost (w : World) (z : Int) (k : Nat) (e : Ending) (W' : World) : Prop := ∃ b a m c, e = .returned (.agg #[.bool b, .slice a m c]) ∧ Wv W' b a m c z k ∧ WNew w.heap.size W' (.agg #[.bool b, .slice a m c]) z ∧ Below w.heap.size w W'
theorem WPost.mk {w : World} {z : Int} {k : Nat} {e : Ending} {W' : World} (hz : z.natAbs < 18446744073709551616 ^ k) (h : ∃ b a m c, e = .returned (.agg #[.bool b, .slice a m c]) ∧ WNew w.heap.size W' (.agg #[.bool b, .slice a m c]) z ∧ Below w.heap.size w W') : WPost w z k e W' := by
  obtain ⟨b, a, m, c, h1, h2, h3⟩ := h
  exact ⟨b, a, m, c, h1, h2.wv hz, h2, h3⟩
theorem pow_max_lt {M N i j : Nat} (hM : M < 18446744073709551616 ^ i) (hN : N < 18446744073709551616 ^ j) : M + N < 18446744073709551616 ^ (max i j + 1) := by
  have h1 : 18446744073709551616 ^ i ≤ 18446744073709551616 ^ (max i j) := Nat.pow_le_pow_right (by decide) (by omega)
  have h2 : 18446744073709551616 ^ j ≤ 18446744073709551616 ^ (max i j) := Nat.pow_le_pow_right (by decide) (by omega)
  rw [Nat.pow_succ]
  omega
section
variable {s t : Bool} {a a' : Option Addr} {m cap m' cap' : Nat} {x y : Int} {i j : Nat} {w : World}
theorem zadd (hA : Wv w s a m cap x i) (hB : Wv w t a' m' cap' y j) (hi : i ≤ 17592186044416) (hj : j ≤ 17592186044416) :
    Calls Try.prog 42 #[.agg #[.bool s, .slice a m cap], .agg #[.bool t, .slice a' m' cap']] w (WPost w (x + y) (max i j + 1)) := by
  have hl : (x + y).natAbs < 18446744073709551616 ^ (max i j + 1) := by have := pow_max_lt hA.lt hB.lt; omega
  obtain ⟨M, h1, rfl⟩ := hA
  obtain ⟨N, h2, rfl⟩ := hB
  cases s <;> cases t
  · exact (wadd_same_false h1 h2 hi hj).mono fun e W' h => WPost.mk hl (by rw [show wn false M + wn false N = wn false (M + N) by simp [wn]]; exact h)
  · exact (wadd_unlike_false h1 h2 hi hj).mono fun e W' h => WPost.mk hl h
  · exact (wadd_unlike_true h1 h2 hi hj).mono fun e W' h => WPost.mk hl h
  · exact (wadd_same_true h1 h2 hi hj).mono fun e W' h => WPost.mk hl (by rw [show wn true M + wn true N = wn true (M + N) by simp [wn]; omega]; exact h)
theorem zmul (hA : Wv w s a m cap x i) (hB : Wv w t a' m' cap' y j) (hij : i + j ≤ 17592186044416) :
    Calls Try.prog 44 #[.agg #[.bool s, .slice a m cap], .agg #[.bool t, .slice a' m' cap']] w (WPost w (x * y) (i + j)) := by
  have hl : (x * y).natAbs < 18446744073709551616 ^ (i + j) := by rw [Int.natAbs_mul]; exact pow_mul_lt hA.lt hB.lt
  obtain ⟨M, h1, rfl⟩ := hA
  obtain ⟨N, h2, rfl⟩ := hB
  exact (wmul_any h1 h2 hij).mono fun e W' h => WPost.mk hl (by rw [← wn_mul]; exact h)
theorem znorm (hA : Wv w s a m cap x i) (hi : i ≤ 17592186044416) :
    Calls Try.prog 47 #[.agg #[.bool s, .slice a m cap]] w (WPost w x i) := by
  have hl := hA.lt
  obtain ⟨M, h1, rfl⟩ := hA
  exact (wnorm_any h1 hi).mono fun e W' h => WPost.mk hl h
theorem zneg (hA : Wv w s a m cap x i) (hi : i ≤ 17592186044416) :
    Calls Try.prog 48 #[.agg #[.bool s, .slice a m cap]] w (WPost w (-x) i) := by
  have hl := hA.lt
  rw [← Int.natAbs_neg] at hl
  obtain ⟨M, h1, rfl⟩ := hA
  exact (wneg_any h1 hi).mono fun e W' h => WPost.mk hl (by rw [← wn_not]; exact h)
end

set_option maxRecDepth 100000 in
theorem zsub {s t : Bool} {a a' : Option Addr} {m cap m' cap' : Nat} {x y : Int} {i j : Nat} {w : World} (hA : Wv w s a m cap x i) (hB : Wv w t a' m' cap' y j) (hi : i ≤ 17592186044416) (hj : j ≤ 17592186044416) :
    Calls Try.prog 43 #[.agg #[.bool s, .slice a m cap], .agg #[.bool t, .slice a' m' cap']] w (WPost w (x - y) (max i j + 1)) := by
  have hB : Wv w (!t) a' m' cap' (-y) j := by
    obtain ⟨N, h2, rfl⟩ := hB
    exact ⟨N, h2, (wn_not t N).symm⟩
  go_enter Try.func43, Try.ntmps43
  go_wp2_with fail
  have hb := boxes3 w (.bool s) (.slice a m cap) (.bool t) (.slice a' m' cap') (.bool false) (.slice none 0 0)
  generalize ((w.alloc (.cells #[.bool s, .slice a m cap] 53)).alloc (.cells #[.bool t, .slice a' m' cap'] 53)).alloc (.cells #[.bool false, .slice none 0 0] 53) = W0 at hb ⊢
  obtain ⟨hW, G, G2, R, hsz⟩ := hb
  have hA := hA.behind hW
  have hB := hB.behind hW
  have c0 := G.c0
  have c1 := G.c1
  have c2 := G2.c0
  have c3 := G2.c1
  go_wp2_with fail
  refine (zadd hA hB hi hj).mono ?_
  rintro e w1 ⟨b, a, m, c, rfl, h1, h2, b1⟩
  have R := R.behind b1
  have B1 := below_both hW b1
  have r0 := R.c0; have r1 := R.c1; have r2 := R.f 0; have r3 := R.f 1
  go_wp2_with fail
  rw [Int.sub_eq_add_neg]
  refine bodyPost_ret (v := .agg #[.bool b, .slice a m c]) (by simp [results, Try.results43, go_sem, r0, r1]) rfl (WPost.mk h1.lt ⟨_, _, _, _, rfl, ?_, ?_⟩)
  · obtain ⟨u, e1, e2⟩ := h2
    exact ⟨u, e1, ((e2.put (by show w.heap.size + 1 + 1 < W0.heap.size; omega) _).put (by show w.heap.size + 1 + 1 < W0.heap.size; omega) _).mono (by omega)⟩
  · exact (B1.setCell (by show _ ≤ w.heap.size + 2; omega) _).setCell (by show _ ≤ w.heap.size + 2; omega) _
end Go.Proofs.Ytppbifijgkcpjaa
