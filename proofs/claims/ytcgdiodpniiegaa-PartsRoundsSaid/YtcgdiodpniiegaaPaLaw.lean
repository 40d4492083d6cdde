/- vernierlaw06: alive, wide. -/
import Derived.Test.YtcgdiodpniiegaaPaSpec
namespace Go.Proofs.Ytcgdiodpniiegaa
open Go.RowKit Go.Shelf
theorem palive (w : World) : Calls Try.prog 15 #[] w fun e W' => e = .returned (.bool true) ∧ Below w.heap.size w W' := by
  have h := psplit_fin (a := 4607182418800017408) (w := w) (by omega) (by decide)
  have e1 : neg6 4607182418800017408 = false := by decide
  have e2 : sig 4607182418800017408 = 4503599627370496 := by decide
  have e3 : xpo 4607182418800017408 = -52 := by decide
  rw [e1, e2, e3] at h
  go_enter Try.func15, Try.ntmps15
  go_wp2_with fail
  refine Calls.mono h ?_
  rintro e w1 ⟨rfl, b1⟩
  go_wp2
  go_ret
  exact ⟨rfl, b1⟩
theorem pwide {hi lo : Nat} {W : World} (hh : (hi : Int) ≤ 18446744073709551615) (hl : (lo : Int) ≤ 18446744073709551615) :
    Calls Try.prog 17 #[.int .u64 (hi : Int), .int .u64 (lo : Int)] W fun e W' => ∃ v, e = .returned v ∧ RN W' v (hi * 18446744073709551616 + lo) 8 ∧ Below W.heap.size W W' := by
  have h1 : Num (W.alloc (.cells #[.int .u64 (lo : Int), .int .u64 (hi : Int)] 22)) (.slice (some ⟨W.heap.size, 0, none⟩) 2 2) (hi * 18446744073709551616 + lo) 2 :=
    ⟨[lo, hi], ⟨W.heap.size, by simp, (Row.new W .u64 22 [lo, hi]).rd 2 (by simp)⟩, by intro y hy; simp at hy; omega, by simp [val]; omega, by simp⟩
  have b1 := (Below.refl W.heap.size W).alloc (Nat.le_refl _) (.cells #[.int .u64 (lo : Int), .int .u64 (hi : Int)] 22)
  go_enter Try.func17, Try.ntmps17
  go_wp2_with fail
  generalize (W.alloc (.cells #[.int .u64 (lo : Int), .int .u64 (hi : Int)] 22)) = W1 at *
  refine (of_num h1 (by omega)).mono ?_
  rintro e w2 ⟨v, rfl, r, b2⟩
  go_wp2
  go_ret
  exact ⟨_, rfl, r, below_both b1 b2⟩
end Go.Proofs.Ytcgdiodpniiegaa
