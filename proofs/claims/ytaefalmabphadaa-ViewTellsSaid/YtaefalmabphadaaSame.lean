/- vernierref01.Same at one list; slices.Clone; nat.Norm. -/
import Derived.Test.YtaefalmabphadaaRow
import Derived.Maps.AppendAt
import Derived.Deep.AppendLies
import Derived.WalkSpells
namespace Go.Proofs.Ytaefalmabphadaa
open Go.RowKit Go.Shelf

/-- v reads as xs, in a block that was made behind block number n, or is nil -/
def New (n : Nat) (W : World) (v : Value) (xs : List Nat) : Prop := ∃ S, RdAt S W v xs ∧ S < W.heap.size ∧ (v = .slice none 0 0 ∨ n ≤ S)
theorem New.behind {n : Nat} {W W' : World} {v : Value} {xs : List Nat} (h : New n W v xs) (hb : Below W.heap.size W W') : New n W' v xs := by
  obtain ⟨S, h1, h2, h3⟩ := h
  exact ⟨S, h1.kept (hb.block S h2), Nat.lt_of_lt_of_le h2 hb.size, h3⟩

theorem below_drewN (B : Nat) (w : World) (k : Nat) : Below B w (w.drewN k) := ⟨rfl, rfl, rfl, Nat.le_refl _, fun _ _ => rfl⟩

set_option maxHeartbeats 1000000 in
theorem same_true (ba bb : Nat) (va vb : Value) (xs : List Nat) (hxl : xs.length ≤ 9223372036854775806) (w : World) (hA : RdAt ba w va xs) (hB : RdAt bb w vb xs) :
    Calls Try.prog 29 #[va, vb] w fun e w' => e = .returned (.bool true) ∧ Below w.heap.size w w' := by
  obtain ⟨a, cap, rfl, hcap, hsa⟩ := hA.slice
  obtain ⟨b, cbp, rfl, hcbp, hsb⟩ := hB.slice
  have hca : ∀ k, k < xs.length → ∀ off, a = some ⟨ba, off, none⟩ → w.cell? ⟨ba, off + k, none⟩ = some (.int .u64 (lim xs k : Int)) := by
    intro k hk off ha
    subst ha; exact hA.cell hk
  have hcb : ∀ k, k < xs.length → ∀ off, b = some ⟨bb, off, none⟩ → w.cell? ⟨bb, off + k, none⟩ = some (.int .u64 (lim xs k : Int)) := by
    intro k hk off ha
    subst ha; exact hB.cell hk
  have HA := Lib.hid hca
  have HB := Lib.hid hcb
  have HSA := Lib.hid hsa
  have HSB := Lib.hid hsb
  clear hca hcb hA hB hsa hsb
  generalize xs.length = m at *
  go_enter Try.func29, Try.ntmps29
  go_wp2
  go_loopw [5] (fun i wr => ∃ k : Nat, k ≤ m ∧ i = .int .i64 k ∧ ∃ q, wr = w.drewN q) (fun i _ => m - (intOf i).toNat)
  case atStart => exact ⟨0, Nat.zero_le _, rfl, 0, rfl⟩
  case round =>
    obtain ⟨k, hk, rfl, q, rfl⟩ := hrel
    by_cases hlt : k < m
    · obtain ⟨oa, rfl⟩ := HSA.out (by omega)
      obtain ⟨ob, rfl⟩ := HSB.out (by omega)
      have ka := HA.out k hlt oa rfl
      have kb := HB.out k hlt ob rfl
      go_wp2
      go_quiet (fail)
      go_wp2
      go_roundw
      case rel => exact ⟨k + 1, by omega, by simp, q + nq, rfl⟩
      case measure => simp [intOf]; omega
    · go_wp2
      go_ret
      exact ⟨rfl, below_drewN _ _ _⟩

theorem ownsRow_rd {W : World} {base m : Nat} {e : TypeId} {v : Value} {xs : List Nat} (h : W.ownsRow base e 1 v m (xs.map fun (x : Nat) => Value.int .u64 (x : Int))) : v = .slice none 0 0 ∧ xs = [] ∨ ∃ S, base ≤ S ∧ S < W.heap.size ∧ RdAt S W v xs := by
  have hm : m = xs.length := by have := h.1; simp at this; omega
  subst hm
  rcases h.2 with ⟨h1, h2⟩ | ⟨g, cap, cur, rfl, hb, hg, hn, _, _, _⟩
  · exact .inl ⟨h1, List.eq_nil_of_length_eq_zero h2⟩
  · refine .inr ⟨g, hb, (Array.getElem?_eq_some_iff.1 hg).1, .inr ⟨0, cap, rfl, hn, fun j hj => ?_⟩⟩
    rw [Nat.zero_add, h.cellAt j (by omega)]
    simp [lim, List.getElem?_eq_getElem hj]



end Go.Proofs.Ytaefalmabphadaa
