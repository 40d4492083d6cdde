/- The program's two iterators over a list of words: from the lowest place up, from the highest down. Each hands over every place and its word, in order, to whatever loop body leaves the list's memory as it lay. -/
import Derived.RangeFuncNested
import Derived.RangeFuncBound
import Derived.RangeFuncCalls
import Derived.RangeFuncLeaves
import Derived.Shelf.Abstract
import Derived.Shelf.RegionOpen
import Derived.WalkKit
import Derived.OwnWalkIn
import Derived.TacticsInMore
import Derived.LoopNIn
import Derived.LoopIn
import Derived.Lib.Hide
import Derived.Test.YtjiilechfjkkfaaProg
import Derived.Test.YtjiilechfjkkfaaNum
namespace Go.Proofs.Ytjiilechfjkkfaa
open Go.RowKit Go.Shelf

attribute [local go_sem] Oper.semAt_some

/-- the places of a list of n words -/
abbrev Pl (n : Nat) := { j : Nat // j < n }
abbrev encU (zs : List Nat) (x : Pl zs.length) : Array Value := #[.int .i64 (x.1 : Int), .int .u64 (lim zs x.1 : Int)]

/-- two blocks are as they were -/
def Keep (b c : Nat) (W W' : World) : Prop := W'.heap[b]? = W.heap[b]? ∧ W'.heap[c]? = W.heap[c]?
theorem Keep.refl (b c : Nat) (W : World) : Keep b c W W := ⟨rfl, rfl⟩
theorem Keep.trans {b c : Nat} {X Y Z : World} (h : Keep b c X Y) (k : Keep b c Y Z) : Keep b c X Z := ⟨k.1.trans h.1, k.2.trans h.2⟩
theorem keep_put {b c : Nat} {w : World} (hb : b < w.heap.size) (hc : c < w.heap.size) (W : World) (l : Nat) (o o' : Obj) (hl : w.heap.size ≤ l) (_ : W.heap[l]? = some o) (_ : o.isCells = false) (_ : o.isWalk = false) : Keep b c W (W.putObj l o') :=
  ⟨World.putObj_heap_other (by omega), World.putObj_heap_other (by omega)⟩
theorem Keep.cell1 {b c : Nat} {W W' : World} (h : Keep b c W W') (o : Nat) : W'.cell? ⟨b, o, none⟩ = W.cell? ⟨b, o, none⟩ := World.cell?_of_block (w := W) h.1
theorem Keep.cell2 {b c : Nat} {W W' : World} (h : Keep b c W W') (o : Nat) : W'.cell? ⟨c, o, none⟩ = W.cell? ⟨c, o, none⟩ := World.cell?_of_block (w := W) h.2


/-- the places of a list of n words, from the highest down: the first k -/
def dn (n k : Nat) : List Nat := (List.range k).map fun j => n - 1 - j
theorem dn_length (n k : Nat) : (dn n k).length = k := by simp [dn]
theorem dn_succ (n k : Nat) : dn n (k + 1) = dn n k ++ [n - 1 - k] := by simp [dn, List.range_succ]


/-- the slice value v reads as the words xs; it lies in block b, or has none -/
def RdAt (b : Nat) (W : World) (v : Value) (xs : List Nat) : Prop :=
  ((∃ a cap, v = .slice a 0 cap) ∧ xs = []) ∨ ∃ off cap, v = .slice (some ⟨b, off, none⟩) xs.length cap ∧ xs.length ≤ cap ∧ ∀ j, j < xs.length → W.cell? ⟨b, off + j, none⟩ = some (.int .u64 (lim xs j : Int))
theorem RdAt.kept {b : Nat} {W W' : World} {v : Value} {xs : List Nat} (h : RdAt b W v xs) (hk : W'.heap[b]? = W.heap[b]?) : RdAt b W' v xs := by
  rcases h with h | ⟨off, cap, e, hl, hc⟩
  · exact .inl h
  · exact .inr ⟨off, cap, e, hl, fun j hj => (World.cell?_of_block (w := W) hk).trans (hc j hj)⟩






end Go.Proofs.Ytjiilechfjkkfaa

/- nat.trim: the part of a list of words without zeros at the end, in the list's own memory. -/
namespace Go.Proofs.Ytjiilechfjkkfaa
open Go.RowKit Go.Shelf

attribute [local go_sem] Oper.semAt_some

theorem RdAt.slice {b : Nat} {W : World} {v : Value} {xs : List Nat} (h : RdAt b W v xs) : ∃ a cap, v = .slice a xs.length cap ∧ xs.length ≤ cap ∧ (0 < xs.length → ∃ off, a = some ⟨b, off, none⟩) := by
  rcases h with ⟨⟨a, cap, rfl⟩, rfl⟩ | ⟨off, cap, rfl, hl, _⟩
  · exact ⟨a, cap, rfl, Nat.zero_le _, fun h => absurd h (by simp)⟩
  · exact ⟨_, cap, rfl, hl, fun _ => ⟨off, rfl⟩⟩
theorem RdAt.take {b : Nat} {W : World} {xs : List Nat} {off cap k : Nat} (h : RdAt b W (.slice (some ⟨b, off, none⟩) xs.length cap) xs) (hk : k ≤ xs.length) : RdAt b W (.slice (some ⟨b, off, none⟩) k cap) (xs.take k) := by
  rcases h with ⟨_, rfl⟩ | ⟨off', cap', h, hl, hc⟩
  · obtain rfl : k = 0 := by simpa using hk
    exact .inl ⟨⟨_, _, rfl⟩, by simp⟩
  · cases h
    refine .inr ⟨off, cap, by simp [Nat.min_eq_left hk], by simp; omega, fun j hj => ?_⟩
    have hj' : j < k := by simp at hj; omega
    rw [lim_take hj']
    exact hc j (by omega)
theorem RdAt.cell {b : Nat} {W : World} {xs : List Nat} {off m cap j : Nat} (h : RdAt b W (.slice (some ⟨b, off, none⟩) m cap) xs) (hj : j < xs.length) : W.cell? ⟨b, off + j, none⟩ = some (.int .u64 (lim xs j : Int)) := by
  rcases h with ⟨_, rfl⟩ | ⟨off', cap', h, hl, hc⟩
  · exact absurd hj (by simp)
  · cases h; exact hc j hj
/-- what came in the order of 'dn', the last one apart -/
theorem dn_last {n k : Nat} {ini : List (Pl n)} {last : Pl n} (h : (ini ++ [last]).map Subtype.val = dn n k) (hk : k ≤ n) :
    ∃ k', k = k' + 1 ∧ last.1 = n - 1 - k' ∧ ini.map Subtype.val = dn n k' := by
  cases k with
  | zero => have := congrArg List.length h; simp [dn] at this
  | succ k' =>
    rw [dn_succ, List.map_append] at h
    obtain ⟨h1, h2⟩ := List.append_inj' h rfl
    exact ⟨k', rfl, by simpa using h2, h1⟩
theorem dn_mem {n k j : Nat} (h1 : n - k ≤ j) (h2 : j < n) : j ∈ dn n k := by
  simp only [dn, List.mem_map, List.mem_range]
  exact ⟨n - 1 - j, by omega, by omega⟩
theorem mem_of_map {n : Nat} {pre : List (Pl n)} {l : List Nat} (h : pre.map Subtype.val = l) {j : Nat} (hj : j ∈ l) : ∃ p ∈ pre, p.1 = j := by
  rw [← h] at hj
  obtain ⟨p, hp, e⟩ := List.mem_map.1 hj
  exact ⟨p, hp, e⟩

end Go.Proofs.Ytjiilechfjkkfaa
