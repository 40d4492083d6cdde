/- vec: told, Scal, Add, Axpy. -/
import Derived.Test.YtjapilpjahhimaaVeSpec
import Derived.Test.YtjapilpjahhimaaOw
import Derived.Deep.RegionWith
namespace Go.Proofs.Ytjapilpjahhimaa
open Go.RowKit Go.Shelf
theorem vec_told {v : Value} {xs : List Nat} {b : Nat} {w : World} (hO : OwnK .u64 49 b w v (zn xs)) (h0 : 0 < w.heap.size) (hl : Low 18446744073709551616 xs) (hn : xs.length ≤ 17592186044416) :
    Calls Try.prog 116 #[v] w fun e W' => ∃ v', e = .returned (.tuple #[v', .int .i64 (if finB xs xs.length then 0 else 13)]) ∧ OwnK .u64 49 b W' v' (zn (if finB xs xs.length then xs else [])) ∧ Below w.heap.size w W' := by
  have hc := vec_contains (new_zn.2 (hO.new h0)).arg hl hn
  cases hf : finB xs xs.length
  · rw [hf] at hc
    rw [if_neg (by decide), if_neg (by decide)]
    clear hf
    go_enter Try.func116, Try.ntmps116
    go_wp2_with fail
    refine hc.mono ?_
    rintro e w1 ⟨rfl, b1⟩
    clear hc
    go_wp2
    go_ret2
    exact ⟨_, rfl, OwnK.nil _ _ _ _, b1⟩
  · rw [hf] at hc
    rw [if_pos rfl, if_pos rfl]
    clear hf
    go_enter Try.func116, Try.ntmps116
    go_wp2_with fail
    refine hc.mono ?_
    rintro e w1 ⟨rfl, b1⟩
    clear hc
    go_wp2
    go_ret2
    exact ⟨_, rfl, hO.below b1, b1⟩
theorem tellV_no {want : List Nat} {f : Int} (h : f ≠ 0) : tellV want f = f := by unfold tellV; rw [if_pos h]
theorem tellV_yes {want : List Nat} : tellV want 0 = if finB want want.length then 0 else 13 := by unfold tellV; rw [if_neg (by decide)]
theorem chk_self (xs : List Nat) (e : Int) : bothV xs xs e = if chkV xs ≠ 0 then chkV xs else e := by
  unfold bothV
  by_cases h : chkV xs = 0
  · by_cases h2 : e = 0
    · simp [h, h2]
    · simp [h, h2]
  · simp [h]
      
    
        
        
        
    
end Go.Proofs.Ytjapilpjahhimaa
