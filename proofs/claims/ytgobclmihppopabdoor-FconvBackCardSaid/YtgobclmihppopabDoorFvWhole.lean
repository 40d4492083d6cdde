/- vernierlaw13: alive, whole. -/
import Derived.Test.YtgobclmihppopabDoorFvOwn
import Derived.Deep.DeepCutAuto
import Derived.Deep.CutBlock
namespace Go.Proofs.YtgobclmihppopabDoor
open Go.RowKit Go.Shelf
theorem valive (w : World) : Calls Tryd.prog 4 #[] w fun e W' => e = .returned (.bool true) ∧ Below w.heap.size w W' := by
  have h := fconv_toInt (a := 4612811918334230528) (mode := 0) (w := w) (by omega)
  have e1 : toIntB 4612811918334230528 0 = (2, 16) := by decide
  rw [e1] at h
  go_enter Tryd.func4, Tryd.ntmps4
  go_wp2_with fail
  refine Calls.mono h ?_
  rintro e w1 ⟨rfl, b1⟩
  go_wp2
  go_ret
  exact ⟨rfl, b1⟩
theorem RN.first {w : World} {v : Value} {N k : Nat} (h : RN w v N k) (h0 : N ≠ 0) : ∃ S off cap, v = .slice (some ⟨S, off, none⟩) (digs 65536 N).length cap ∧ w.cell? ⟨S, off, none⟩ = some (.int .i64 ((N % 65536 : Nat) : Int)) ∧ S < w.heap.size ∧ 0 < (digs 65536 N).length := by
  obtain ⟨⟨S, h1, h2⟩, _⟩ := h
  have e := digs_pos (B := 65536) (by decide) h0
  have hl : 0 < (digs 65536 N).length := by rw [e]; simp
  obtain ⟨a, cap, rfl, hc, hs⟩ := h2.slice
  obtain ⟨off, rfl⟩ := hs hl
  have hcell := h2.cell hl
  rw [Nat.add_zero, lim_digs (by decide), Nat.pow_zero, Nat.div_one] at hcell
  exact ⟨S, off, cap, rfl, hcell, h1, hl⟩
theorem RN.none {w : World} {v : Value} {k : Nat} (h : RN w v 0 k) : ∃ a cap, v = .slice a 0 cap := by
  obtain ⟨a, cap, rfl, _⟩ := h.slice
  rw [digs_zero]
  exact ⟨a, cap, rfl⟩
end Go.Proofs.YtgobclmihppopabDoor

/- vernierlaw13.FconvFrom, walked. -/
namespace Go.Proofs.YtgobclmihppopabDoor
open Go.RowKit Go.Shelf
/-- block g holds just these cells -/
def Vs (W : World) (g : Nat) (cs : Array Value) (t : TypeId) : Prop := W.heap[g]? = some (.cells cs t (0, 0))
theorem Vs.lt {W : World} {g : Nat} {cs : Array Value} {t : TypeId} (h : Vs W g cs t) : g < W.heap.size := (Array.getElem?_eq_some_iff.1 h).1
theorem Vs.cell {W : World} {g : Nat} {cs : Array Value} {t : TypeId} (h : Vs W g cs t) {i : Nat} {v : Value} (hv : cs[i]? = some v) : W.cell? ⟨g, i, none⟩ = some v := by
  rw [cell_of_row W g i _ _ (0, 0) h, hv]
theorem Vs.behind {W W' : World} {g : Nat} {cs : Array Value} {t : TypeId} (h : Vs W g cs t) (hb : Below W.heap.size W W') : Vs W' g cs t := (hb.block g h.lt).trans h
theorem vbox (w : World) (c : Array Value) (t : TypeId) (W : World) (h : W = w.alloc (.cells c t)) : Below w.heap.size w W ∧ Vs W w.heap.size c t := by
  subst h
  exact ⟨(Below.refl _ w).alloc (Nat.le_refl _) _, World.alloc_heap_new w _⟩
end Go.Proofs.YtgobclmihppopabDoor
