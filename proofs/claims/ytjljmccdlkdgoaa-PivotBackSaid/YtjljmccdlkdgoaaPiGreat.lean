/- The law PivotGreatest, walked. -/
import Derived.Test.YtjljmccdlkdgoaaPiSpec
import Derived.BigRegion
namespace Go.Proofs.Ytjljmccdlkdgoaa
open Go.RowKit Go.Shelf
theorem low_pv {a b : Nat} (ha : a < 18446744073709551616) (hb : b < 18446744073709551616) : Low 18446744073709551616 [a, b] := by
  intro x hx
  simp only [List.mem_cons, List.not_mem_nil, or_false] at hx
  rcases hx with rfl | rfl <;> assumption
theorem piv_one : pivR [0, 4607182418800017408] 2 1 2 0 0 = 1 ∧ pivE 2 1 2 0 0 = 0 := by decide
theorem l24_alive {w : World} : Calls Try.prog 7 #[] w fun e W' => e = .returned (.bool true) ∧ Below w.heap.size w W' := by
  have af : Arg (w.alloc (.cells #[.int .u64 0, .int .u64 4607182418800017408] 32)) (.slice (some ⟨w.heap.size, 0, none⟩) 2 2) [0, 4607182418800017408] := by
    refine ⟨w.heap.size, by rw [World.size_alloc]; omega, .inr ⟨0, 2, rfl, Nat.le_refl _, fun j hj => ?_⟩⟩
    have : j = 0 ∨ j = 1 := by simp at hj; omega
    rcases this with rfl | rfl
    · rw [World.cell?_alloc_new]; rfl
    · rw [World.cell?_alloc_new]; rfl
  have b1 : Below w.heap.size w (w.alloc (.cells #[.int .u64 0, .int .u64 4607182418800017408] 32)) := (Below.refl _ w).alloc (Nat.le_refl _) _
  obtain ⟨b2, G⟩ := mbox (w.alloc (.cells #[.int .u64 0, .int .u64 4607182418800017408] 32)) #[.int .i64 2, .int .i64 1, .slice (some ⟨w.heap.size, 0, none⟩) 2 2] 24 _ rfl
  have c00 := G.cell (i := 0) rfl
  have c01 := G.cell (i := 1) rfl
  have c02 := G.cell (i := 2) rfl
  have h := pivot_search (R := 2) (C := 1) (col := 0) (f := 0) (af.behind b2) (low_pv (by decide) (by decide))
  rw [piv_one.1, piv_one.2] at h
  go_enter Try.func7, Try.ntmps7
  go_wp2_with fail
  refine h.mono ?_
  rintro e w3 ⟨rfl, b3⟩
  go_wp2
  go_ret
  exact ⟨rfl, below_both (below_both b1 b2) b3⟩
/-- what Search tells of a matrix whose numbers are finite -/
theorem piv_best {xs : List Nat} {C j g n : Nat} (hn : 0 < n) (hf : ∀ k, k < n → cls (lim xs ((g + k) * C + j)) ≤ 1) :
    ∃ a : Nat, (larV (colW xs C j g n) n).1 = (a : Int) ∧ a < n ∧ ∀ t, t < n → mag (lim xs ((g + t) * C + j)) ≤ mag (lim xs ((g + a) * C + j)) ∧ (mag (lim xs ((g + t) * C + j)) = mag (lim xs ((g + a) * C + j)) → a ≤ t) := by
  obtain ⟨h1, h2, h3⟩ := larV_best (colW xs C j g n) n
  have h0 := h1 0 hn (by rw [colW_at hn]; have := hf 0 hn; omega)
  obtain ⟨a, e, ha, hm, _⟩ := h3 (by omega)
  rw [colW_at ha] at hm
  refine ⟨a, e, ha, fun t ht => ?_⟩
  have q := h1 t ht (by rw [colW_at ht]; have := hf t ht; omega)
  rw [colW_at ht, ← hm] at q
  exact ⟨q.2.1, fun h => by have := q.2.2 h; omega⟩
end Go.Proofs.Ytjljmccdlkdgoaa
