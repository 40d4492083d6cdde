/- Lists that a call makes at full length, all zeros; blocks of known cells that are stored to. -/
import Derived.Test.YtgppbimbampenaaOw
namespace Go.Proofs.Ytgppbimbampenaa
open Go.RowKit Go.Shelf
theorem valsK_zeros (k : IntKind) (n : Nat) : (madeCells #[Value.int k 0] n).toList = valsK k (List.replicate n 0) := by
  rw [toList_madeCells_one]
  unfold valsK
  rw [List.map_replicate]
theorem OwnK.full (k : IntKind) (t : TypeId) (W : World) (n : Nat) (hn : n ≤ 17592186044416) : OwnK k t W.heap.size (W.alloc (.cells (madeCells #[Value.int k 0] n) t)) (.slice (some ⟨W.heap.size, 0, none⟩) n n) (List.replicate n 0) := by
  have h := World.ownsRow_lit (base := W.heap.size) (e := t) (size := 1) W (madeCells #[Value.int k 0] n) n (Nat.le_refl _) (by simp only [maxLen]; omega) (by rw [size_madeCells, Nat.mul_one])
  rw [valsK_zeros] at h
  unfold OwnK
  rw [List.length_replicate]
  exact h
/-- make([]uint64, n) -/
theorem makeN_u64 (n : Nat) (hn : n ≤ 17592186044416) (u : World) : (Instr.makeSlice 39 (.int .i64 (n : Int)) (.int .i64 (n : Int))).run Try.prog u =
    .ok (.slice (some ⟨u.heap.size, 0, none⟩) n n) (u.alloc (.cells (madeCells #[.int .u64 0] n) 57)) := by
  obtain ⟨i0, hi, hz0, hz1, hz2⟩ := info_parts info_u64
  have h := run_make (P := Try.prog) u 39 57 i0 (.int .u64 0) Try.underlying39 hi hz0 .i64 .i64 n n (by omega) (by omega) (by rw [hz2]; omega) (by omega)
  rw [h, hz1]
  simp [Value.cells]
/-- make([]int, n) -/
theorem makeN_int (n : Nat) (hn : n ≤ 17592186044416) (u : World) : (Instr.makeSlice 25 (.int .i64 (n : Int)) (.int .i64 (n : Int))).run Try.prog u =
    .ok (.slice (some ⟨u.heap.size, 0, none⟩) n n) (u.alloc (.cells (madeCells #[.int .i64 0] n) 3)) := by
  obtain ⟨i0, hi, hz0, hz1, hz2⟩ := info_parts info_int
  have h := run_make (P := Try.prog) u 25 3 i0 (.int .i64 0) Try.underlying25 hi hz0 .i64 .i64 n n (by omega) (by omega) (by rw [hz2]; omega) (by omega)
  rw [h, hz1]
  simp [Value.cells]
section
variable {W W' : World} {g : Nat} {cs : Array Value} {t : TypeId}
theorem Ms.put (h : Ms W g cs t) {p : Addr} (hp : g ≠ p.block) (u : Value) : Ms (W.setCell p u) g cs t := (Below.heap_setCell _ _ _ _ hp).trans h
theorem Ms.set (h : Ms W g cs t) (i : Nat) (u : Value) : Ms (W.setCell ⟨g, i, none⟩ u) g (cs.setIfInBounds i u) t := by
  unfold Ms at h ⊢
  simp [World.setCell, Array.getElem?_modify, h]
end
end Go.Proofs.Ytgppbimbampenaa
