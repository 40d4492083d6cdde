/- dyadic's isExp, Check: may a number be? Blocks whose cells are known. -/
import Derived.Test.YtfbnpdlkbabmfaaDoorDyNum
import Derived.Test.YtfbnpdlkbabmfaaDoorWholeFive
import Derived.Test.YtfbnpdlkbabmfaaDoorShl
namespace Go.Proofs.YtfbnpdlkbabmfaaDoor
open Go.RowKit Go.Shelf
attribute [local go_sem ↓] Go.wp_at_zero Go.wp_at_succ

/-- block g holds just these cells -/
def Cs (W : World) (g : Nat) (cs : Array Value) (t : TypeId) : Prop := W.heap[g]? = some (.cells cs t (0, 0))
section
variable {W W' : World} {g : Nat} {cs : Array Value} {t : TypeId}
theorem Cs.lt (h : Cs W g cs t) : g < W.heap.size := (Array.getElem?_eq_some_iff.1 h).1
theorem Cs.cell (h : Cs W g cs t) {i : Nat} {v : Value} (hv : cs[i]? = some v) : W.cell? ⟨g, i, none⟩ = some v := by
  rw [cell_of_row W g i _ _ (0, 0) h, hv]
theorem Cs.f (h : Cs W g cs t) (i : Nat) : W.frozen? ⟨g, i, none⟩ = false := by simp [World.frozen?, show W.heap[g]? = _ from h]
theorem Cs.behind (h : Cs W g cs t) (hb : Below W.heap.size W W') : Cs W' g cs t := (hb.block g h.lt).trans h
theorem Cs.drew (h : Cs W g cs t) : Cs W.drew g cs t := h
theorem Cs.new (W : World) (cs : Array Value) (t : TypeId) : Cs (W.alloc (.cells cs t)) W.heap.size cs t := World.alloc_heap_new W _
theorem Cs.put (h : Cs W g cs t) {p : Addr} (hp : g ≠ p.block) (u : Value) : Cs (W.setCell p u) g cs t := (Below.heap_setCell _ _ _ _ hp).trans h
theorem Cs.set (h : Cs W g cs t) (i : Nat) (u : Value) : Cs (W.setCell ⟨g, i, none⟩ u) g (cs.setIfInBounds i u) t := by
  unfold Cs at h ⊢
  simp [World.setCell, Array.getElem?_modify, h]
end
/-- is an exponent within? -/
def expB (E : Int) : Bool := decide (-16384 ≤ E) && decide (E ≤ 16384)
theorem expB_iff {E : Int} : expB E = true ↔ -16384 ≤ E ∧ E ≤ 16384 := by simp [expB]
theorem expB_not {E : Int} (h : ¬ (-16384 ≤ E ∧ E ≤ 16384)) : expB E = false := by rw [← expB_iff] at h; simpa using h
theorem mayB_exp (m : Nat) (E : Int) : mayB m E = (expB E && decide (m ≤ 1024)) := rfl
theorem ret_bool {a b : Bool} (h : a = b) : Ending.returned (.bool a) = .returned (.bool b) := by rw [h]
theorem isExp_calls (E : Int) (w : World) :
    Calls Tryd.prog 49 #[.int .i64 E] w fun e W' => e = .returned (.bool (expB E)) ∧ w = W' := by
  by_cases h1 : -16384 ≤ E
  · by_cases h2 : E ≤ 16384
    · rw [expB_iff.2 ⟨h1, h2⟩]
      go_enter Tryd.func49, Tryd.ntmps49
      go_wp2
      go_ret
      exact ⟨rfl, rfl⟩
    · rw [expB_not (by omega)]
      go_enter Tryd.func49, Tryd.ntmps49
      go_wp2
      go_ret
      exact ⟨rfl, rfl⟩
  · rw [expB_not (by omega)]
    go_enter Tryd.func49, Tryd.ntmps49
    go_wp2
    go_ret
    exact ⟨rfl, rfl⟩
def chk (m : Nat) (E : Int) : Int := if mayB m E then 0 else 9
theorem check_calls (s : Bool) (a : Option Addr) (m cap : Nat) (E : Int) (w : World) :
    Calls Tryd.prog 28 #[.agg #[.bool s, .slice a m cap, .int .i64 E]] w fun e W' => e = .returned (.int .i64 (chk m E)) ∧ Below w.heap.size w W' := by
  have hB := bel_alloc w (.cells #[.bool s, .slice a m cap, .int .i64 E] 44)
  have G := Cs.new w #[.bool s, .slice a m cap, .int .i64 E] 44
  unfold chk
  rw [mayB_exp]
  by_cases hE : expB E = true
  · by_cases hm : m ≤ 1024
    · have hd : decide (1024 < m) = false := by simp; omega
      have hx := isExp_calls E
      rw [hE] at hx ⊢
      rw [decide_eq_true hm]
      go_enter Tryd.func28, Tryd.ntmps28
      go_wp2_with fail
      generalize (w.alloc (.cells #[.bool s, .slice a m cap, .int .i64 E] 44)) = W0 at hB G ⊢
      have c1 := G.cell (i := 1) rfl
      have c2 := G.cell (i := 2) rfl
      go_wp2_with fail
      refine (hx _).mono ?_
      rintro e w1 ⟨rfl, rfl⟩
      clear hx
      go_wp2
      go_ret
      exact ⟨rfl, hB⟩
    · have hd : decide (1024 < m) = true := by simp; omega
      have hx := isExp_calls E
      rw [hE] at hx ⊢
      rw [decide_eq_false hm]
      go_enter Tryd.func28, Tryd.ntmps28
      go_wp2_with fail
      generalize (w.alloc (.cells #[.bool s, .slice a m cap, .int .i64 E] 44)) = W0 at hB G ⊢
      have c1 := G.cell (i := 1) rfl
      have c2 := G.cell (i := 2) rfl
      go_wp2_with fail
      refine (hx _).mono ?_
      rintro e w1 ⟨rfl, rfl⟩
      clear hx
      go_wp2
      go_ret
      exact ⟨rfl, hB⟩
  · have hE : expB E = false := by simpa using hE
    have hx := isExp_calls E
    rw [hE] at hx ⊢
    go_enter Tryd.func28, Tryd.ntmps28
    go_wp2_with fail
    generalize (w.alloc (.cells #[.bool s, .slice a m cap, .int .i64 E] 44)) = W0 at hB G ⊢
    have c1 := G.cell (i := 1) rfl
    have c2 := G.cell (i := 2) rfl
    go_wp2_with fail
    refine (hx _).mono ?_
    rintro e w1 ⟨rfl, rfl⟩
    clear hx
    go_wp2
    go_ret
    exact ⟨rfl, hB⟩
end Go.Proofs.YtfbnpdlkbabmfaaDoor

/- dyadic's checkAll: the first error of some numbers. -/
namespace Go.Proofs.YtfbnpdlkbabmfaaDoor
open Go.RowKit Go.Shelf
attribute [local go_sem ↓] Go.wp_at_zero Go.wp_at_succ

def chks (m : Nat → Nat) (E : Nat → Int) (n : Nat) : Int := if ∀ k, k < n → mayB (m k) (E k) = true then 0 else 9
end Go.Proofs.YtfbnpdlkbabmfaaDoor

/- dyadic's told: a number as it is told, or why not. -/
namespace Go.Proofs.YtfbnpdlkbabmfaaDoor
open Go.RowKit Go.Shelf
attribute [local go_sem ↓] Go.wp_at_zero Go.wp_at_succ

/-- what a call of dyadic answers: the number r, the error R -/
def DP (w : World) (r : Dn) (R : Int) (e : Ending) (W' : World) : Prop :=
  ∃ a m c s n x q, e = .returned (.tuple #[.agg #[.bool s, .slice a m c, .int .i64 x], .int .i64 q]) ∧ New w.heap.size W' (.slice a m c) (digs 18446744073709551616 n) ∧ Below w.heap.size w W' ∧ r = ⟨s, n, x⟩ ∧ R = q
theorem new_zero {n : Nat} {W : World} (h : 0 < W.heap.size) : New n W (.slice none 0 0) (digs 18446744073709551616 0) :=
  ⟨0, .inl ⟨⟨_, _, rfl⟩, digs_zero _⟩, h, .inl rfl⟩
theorem set3 {w W : World} {r : Nat} (hB : Below w.heap.size w W) (hr : w.heap.size ≤ r) (x y z : Value) : Below w.heap.size w (((W.setCell ⟨r, 0, none⟩ x).setCell ⟨r, 1, none⟩ y).setCell ⟨r, 2, none⟩ z) :=
  ((hB.setCell hr _).setCell hr _).setCell hr _
theorem dend {w W : World} {n r : Nat} {ta : Option Addr} {tm tc N : Nat} {s : Bool} {x q : Int} {R : Dn} {Q : Int} (hB : Below w.heap.size w W) (hr : w.heap.size ≤ r) (hn : r < n) (nt : New n W (.slice ta tm tc) (digs 18446744073709551616 N)) (hR : R = ⟨s, N, x⟩) (hQ : Q = q) :
    DP w R Q (.returned (.tuple #[.agg #[.bool s, .slice ta tm tc, .int .i64 x], .int .i64 q])) (((W.setCell ⟨r, 0, none⟩ (.bool s)).setCell ⟨r, 1, none⟩ (.slice ta tm tc)).setCell ⟨r, 2, none⟩ (.int .i64 x)) :=
  ⟨_, _, _, _, _, _, _, rfl, (((nt.put hn _).put hn _).put hn _).mono (by omega), set3 hB hr _ _ _, hR, hQ⟩
theorem dnil {w W : World} {r : Nat} {q : Int} {R : Dn} {Q : Int} (hB : Below w.heap.size w W) (hr : w.heap.size ≤ r) (h0 : 0 < W.heap.size) (hR : R = ⟨false, 0, 0⟩) (hQ : Q = q) :
    DP w R Q (.returned (.tuple #[.agg #[.bool false, .slice none 0 0, .int .i64 0], .int .i64 q])) (((W.setCell ⟨r, 0, none⟩ (.bool false)).setCell ⟨r, 1, none⟩ (.slice none 0 0)).setCell ⟨r, 2, none⟩ (.int .i64 0)) :=
  ⟨_, _, _, _, _, _, _, rfl, new_zero (by simpa [World.setCell] using h0), set3 hB hr _ _ _, hR, hQ⟩
theorem outD_not {r : Dn} (h : ¬ fits r = true) : outD r = ⟨false, 0, 0⟩ := by rw [outD, if_neg h]
theorem outE_not {r : Dn} (h : ¬ fits r = true) : outE r = 4 := by rw [outE, if_neg h]
theorem bits_none {va : Value} {M i : Nat} {w : World} (hA : Num w va M i) (hi : i ≤ 17592186044416) (h : M = 0) :
    Calls Tryd.prog 14 #[va] w fun e W' => e = .returned (.int .i64 0) ∧ Below w.heap.size w W' := by
  subst h
  exact bits_num hA hi
theorem isExp_is (E : Int) (b : Bool) (h : expB E = b) (w : World) :
    Calls Tryd.prog 49 #[.int .i64 E] w fun e W' => e = .returned (.bool b) ∧ w = W' := by
  subst h
  exact isExp_calls E w

end Go.Proofs.YtfbnpdlkbabmfaaDoor

/- dyadic's Norm, Abs, Of: a number as it is told, without its sign, made of an int. -/
namespace Go.Proofs.YtfbnpdlkbabmfaaDoor
open Go.RowKit Go.Shelf
attribute [local go_sem ↓] Go.wp_at_zero Go.wp_at_succ

theorem DP.up {w w1 : World} {r : Dn} {R : Int} {e : Ending} {W' : World} (hb : Below w.heap.size w w1) (h : DP w1 r R e W') : DP w r R e W' := by
  obtain ⟨a, m, c, s, n, x, q, h1, h2, h3, h4, h5⟩ := h
  exact ⟨a, m, c, s, n, x, q, h1, h2.mono hb.size, below_both hb h3, h4, h5⟩
theorem num_may {w : World} {a : Option Addr} {m cap M i : Nat} (h : Num w (.slice a m cap) M i) (hm : m ≤ 1024) : Num w (.slice a m cap) M 1024 := by
  obtain ⟨xs, h1, h2, h3, h4⟩ := h
  obtain ⟨b, c, e⟩ := h1.slice
  cases e
  exact ⟨xs, h1, h2, h3, hm⟩

theorem dbox2 (w : World) (c d : Array Value) (t u : TypeId) (W : World) (h : W = (w.alloc (.cells c t)).alloc (.cells d u)) : Below w.heap.size w W ∧ Cs W w.heap.size c t ∧ Cs W (w.heap.size + 1) d u ∧ W.heap.size = w.heap.size + 2 := by
  subst h
  have h1 := Cs.new w c t
  have b1 := bel_alloc w (.cells c t)
  have h2 := Cs.new (w.alloc (.cells c t)) d u
  have b2 := bel_alloc (w.alloc (.cells c t)) (.cells d u)
  rw [World.size_alloc] at h2
  exact ⟨below_both b1 b2, h1.behind b2, h2, by rw [World.size_alloc, World.size_alloc]⟩
theorem dbox3 (w : World) (c d f : Array Value) (t u v : TypeId) (W : World) (h : W = ((w.alloc (.cells c t)).alloc (.cells d u)).alloc (.cells f v)) : Below w.heap.size w W ∧ Cs W w.heap.size c t ∧ Cs W (w.heap.size + 1) d u ∧ Cs W (w.heap.size + 2) f v ∧ W.heap.size = w.heap.size + 3 := by
  subst h
  obtain ⟨b1, h1, h2, hz⟩ := dbox2 w c d t u _ rfl
  generalize (w.alloc (.cells c t)).alloc (.cells d u) = X at *
  have h3 := Cs.new X f v
  have b2 := bel_alloc X (.cells f v)
  rw [hz] at h3
  exact ⟨below_both b1 b2, h1.behind b2, h2.behind b2, h3, by rw [World.size_alloc, hz]⟩
theorem dbox1 (w : World) (c : Array Value) (t : TypeId) (W : World) (h : W = w.alloc (.cells c t)) : Below w.heap.size w W ∧ Cs W w.heap.size c t ∧ W.heap.size = w.heap.size + 1 := by
  subst h
  exact ⟨bel_alloc _ _, Cs.new w c t, World.size_alloc ..⟩
end Go.Proofs.YtfbnpdlkbabmfaaDoor
