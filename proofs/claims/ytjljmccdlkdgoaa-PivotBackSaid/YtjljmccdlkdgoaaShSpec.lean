/- shape: what its calls keep. -/
import Derived.Test.YtjljmccdlkdgoaaShNum
import Derived.Test.YtjljmccdlkdgoaaOu
import Derived.Test.YtjljmccdlkdgoaaPaOne
import Derived.Deep.RegionHeld3
import Derived.Deep.QuietTactic
import Derived.BigQuiet
import Derived.IntWalk
namespace Go.Proofs.Ytjljmccdlkdgoaa
open Go.RowKit Go.Shelf
/-- block g holds just these cells -/
def Ms (W : World) (g : Nat) (cs : Array Value) (t : TypeId) : Prop := W.heap[g]? = some (.cells cs t (0, 0))
theorem Ms.lt {W : World} {g : Nat} {cs : Array Value} {t : TypeId} (h : Ms W g cs t) : g < W.heap.size := (Array.getElem?_eq_some_iff.1 h).1
theorem Ms.cell {W : World} {g : Nat} {cs : Array Value} {t : TypeId} (h : Ms W g cs t) {i : Nat} {v : Value} (hv : cs[i]? = some v) : W.cell? ⟨g, i, none⟩ = some v := by
  rw [cell_of_row W g i _ _ (0, 0) h, hv]
theorem Ms.f {W : World} {g : Nat} {cs : Array Value} {t : TypeId} (h : Ms W g cs t) (i : Nat) : W.frozen? ⟨g, i, none⟩ = false := by
  simp [World.frozen?, show W.heap[g]? = _ from h]
theorem Ms.behind {W W' : World} {g : Nat} {cs : Array Value} {t : TypeId} (h : Ms W g cs t) (hb : Below W.heap.size W W') : Ms W' g cs t := (hb.block g h.lt).trans h
theorem Ms.drew {W : World} {g : Nat} {cs : Array Value} {t : TypeId} (h : Ms W g cs t) : Ms W.drew g cs t := h
theorem Ms.below {W W' : World} {g B : Nat} {cs : Array Value} {t : TypeId} (h : Ms W g cs t) (hb : Below B W W') (hg : g < B) : Ms W' g cs t := (hb.block g hg).trans h
theorem mbox (w : World) (c : Array Value) (t : TypeId) (W : World) (h : W = w.alloc (.cells c t)) : Below w.heap.size w W ∧ Ms W w.heap.size c t := by
  subst h
  exact ⟨(Below.refl _ w).alloc (Nat.le_refl _) _, World.alloc_heap_new w _⟩

theorem New.cellFar {n : Nat} {W : World} {v : Value} {xs : List Nat} (h : New n W v xs) {p : Addr} (hp : p.block < n) (u : Value) : New n (W.setCell p u) v xs := by
  obtain ⟨S, h1, h2, h3⟩ := h
  rcases h3 with h3 | h3
  · subst h3
    refine ⟨S, ?_, by rw [World.size_setCell]; exact h2, .inl rfl⟩
    rcases h1 with h1 | ⟨_, _, e, _⟩
    · exact .inl h1
    · simp at e
  · exact ⟨S, h1.kept (Below.heap_setCell W p u S (by omega)), by rw [World.size_setCell]; exact h2, .inr h3⟩
theorem New.put3 {n g : Nat} {W : World} {v : Value} {xs : List Nat} (h : New n W v xs) (hg : g < n) (x y z : Value) : New n (((W.setCell ⟨g, 0, none⟩ x).setCell ⟨g, 1, none⟩ y).setCell ⟨g, 2, none⟩ z) v xs :=
  ((h.cellFar (p := ⟨g, 0, none⟩) hg x).cellFar (p := ⟨g, 1, none⟩) hg y).cellFar (p := ⟨g, 2, none⟩) hg z
theorem _root_.Go.RowKit.Below.put3 {B g : Nat} {w W : World} (h : Below B w W) (hg : B ≤ g) (x y z : Value) : Below B w (((W.setCell ⟨g, 0, none⟩ x).setCell ⟨g, 1, none⟩ y).setCell ⟨g, 2, none⟩ z) :=
  ((h.setCell (p := ⟨g, 0, none⟩) hg x).setCell (p := ⟨g, 1, none⟩) hg y).setCell (p := ⟨g, 2, none⟩) hg z
/-- function k has a body: a call enters it -/
def Enters (k : Nat) : Prop := ∀ (args : Array Value) (W : World), (callFunc k args).run Try.prog W = .ok (.enter k args) W
theorem enters_of {k : Nat} {fn : Func} {c : Code} (hf : Try.prog.funcs[k]? = some fn) (hname : (fn.name == "runtime.NumGoroutine") = false) (hb : fn.body = some c) : Enters k := by
  intro args W
  have h1 : fn.name ≠ "runtime.NumGoroutine" := by simpa using hname
  simp [callFunc, hf, h1, hb]
theorem shape_may {R C : Int} {w : World} : Calls Try.prog 22 #[.int .i64 R, .int .i64 C] w fun e W' => e = .returned (.bool (mayS R C)) ∧ w = W' := by
  by_cases k1 : 1 ≤ R <;> by_cases k2 : R ≤ 64 <;> by_cases k3 : 1 ≤ C <;> by_cases k4 : C ≤ 64
  all_goals
    simp only [mayS, k1, k2, k3, k4, decide_true, decide_false, Bool.and_true, Bool.and_false]
    go_enter Try.func22, Try.ntmps22
    go_wp2
    go_ret
    exact ⟨rfl, rfl⟩
theorem shape_check {a : Option Addr} {m cap : Nat} {R C : Int} {w : World} :
    Calls Try.prog 10 #[.agg #[.int .i64 R, .int .i64 C, .slice a m cap]] w fun e W' => e = .returned (.int .i64 (chkM R C m)) ∧ Below w.heap.size w W' := by
  obtain ⟨bx, G⟩ := mbox w #[.int .i64 R, .int .i64 C, .slice a m cap] 24 _ rfl
  have c00 := G.cell (i := 0) rfl
  have c01 := G.cell (i := 1) rfl
  have c02 := G.cell (i := 2) rfl
  have hs := fun w => shape_may (R := R) (C := C) (w := w)
  unfold chkM
  rw [mayM_mayS]
  cases hm : mayS R C
  · rw [hm] at hs
    rw [Bool.false_and]
    clear hm
    go_enter Try.func10, Try.ntmps10
    go_wp2_with fail
    refine (hs _).mono ?_
    rintro e w1 ⟨rfl, rfl⟩
    clear hs
    go_wp2
    go_ret
    exact ⟨rfl, bx⟩
  · rw [hm] at hs
    rw [Bool.true_and]
    have h4 := mayS_iff.1 hm
    have hp : IntKind.i64.wrap (R * C) = R * C := by
      have := Int.mul_le_mul h4.2.1 h4.2.2.2 (by omega) (by decide)
      have := Int.mul_nonneg (show 0 ≤ R by omega) (show 0 ≤ C by omega)
      exact IntWalk.i64_in _ (by omega)
    clear hm h4
    by_cases he : (m : Int) = R * C
    · have hb : ((m : Int) != R * C) = false := by simp [he]
      rw [decide_eq_true he]
      clear he
      go_enter Try.func10, Try.ntmps10
      go_wp2_with fail
      refine (hs _).mono ?_
      rintro e w1 ⟨rfl, rfl⟩
      clear hs
      go_wp2
      go_ret
      exact ⟨rfl, bx⟩
    · have hb : ((m : Int) != R * C) = true := bne_iff_ne.2 he
      rw [decide_eq_false he]
      clear he
      go_enter Try.func10, Try.ntmps10
      go_wp2_with fail
      refine (hs _).mono ?_
      rintro e w1 ⟨rfl, rfl⟩
      clear hs
      go_wp2
      go_ret
      exact ⟨rfl, bx⟩


end Go.Proofs.Ytjljmccdlkdgoaa
