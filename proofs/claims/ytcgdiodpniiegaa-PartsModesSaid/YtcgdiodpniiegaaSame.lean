/- vernierref01.Same at one list; slices.Clone; nat.Norm. -/
import Derived.Test.YtcgdiodpniiegaaRow
import Derived.Maps.AppendAt
import Derived.Deep.AppendLies
import Derived.WalkSpells
namespace Go.Proofs.Ytcgdiodpniiegaa
open Go.RowKit Go.Shelf

/-- v reads as xs, in a block that was made behind block number n, or is nil -/
def New (n : Nat) (W : World) (v : Value) (xs : List Nat) : Prop := ∃ S, RdAt S W v xs ∧ S < W.heap.size ∧ (v = .slice none 0 0 ∨ n ≤ S)
theorem New.behind {n : Nat} {W W' : World} {v : Value} {xs : List Nat} (h : New n W v xs) (hb : Below W.heap.size W W') : New n W' v xs := by
  obtain ⟨S, h1, h2, h3⟩ := h
  exact ⟨S, h1.kept (hb.block S h2), Nat.lt_of_lt_of_le h2 hb.size, h3⟩

theorem below_drewN (B : Nat) (w : World) (k : Nat) : Below B w (w.drewN k) := ⟨rfl, rfl, rfl, Nat.le_refl _, fun _ _ => rfl⟩


theorem ownsRow_rd {W : World} {base m : Nat} {e : TypeId} {v : Value} {xs : List Nat} (h : W.ownsRow base e 1 v m (xs.map fun (x : Nat) => Value.int .u64 (x : Int))) : v = .slice none 0 0 ∧ xs = [] ∨ ∃ S, base ≤ S ∧ S < W.heap.size ∧ RdAt S W v xs := by
  have hm : m = xs.length := by have := h.1; simp at this; omega
  subst hm
  rcases h.2 with ⟨h1, h2⟩ | ⟨g, cap, cur, rfl, hb, hg, hn, _, _, _⟩
  · exact .inl ⟨h1, List.eq_nil_of_length_eq_zero h2⟩
  · refine .inr ⟨g, hb, (Array.getElem?_eq_some_iff.1 hg).1, .inr ⟨0, cap, rfl, hn, fun j hj => ?_⟩⟩
    rw [Nat.zero_add, h.cellAt j (by omega)]
    simp [lim, List.getElem?_eq_getElem hj]



end Go.Proofs.Ytcgdiodpniiegaa
