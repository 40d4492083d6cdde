/- shape: what its calls keep. -/
import Derived.Test.YtjapilpjahhimaaShNum
import Derived.Test.YtjapilpjahhimaaOu
import Derived.Test.YtjapilpjahhimaaPaOne
import Derived.Deep.RegionHeld3
import Derived.Deep.QuietTactic
import Derived.BigQuiet
import Derived.IntWalk
namespace Go.Proofs.Ytjapilpjahhimaa
open Go.RowKit Go.Shelf
/-- block g holds just these cells -/
def Ms (W : World) (g : Nat) (cs : Array Value) (t : TypeId) : Prop := W.heap[g]? = some (.cells cs t (0, 0))
theorem Ms.lt {W : World} {g : Nat} {cs : Array Value} {t : TypeId} (h : Ms W g cs t) : g < W.heap.size := (Array.getElem?_eq_some_iff.1 h).1
theorem Ms.cell {W : World} {g : Nat} {cs : Array Value} {t : TypeId} (h : Ms W g cs t) {i : Nat} {v : Value} (hv : cs[i]? = some v) : W.cell? ⟨g, i, none⟩ = some v := by
  rw [cell_of_row W g i _ _ (0, 0) h, hv]
theorem Ms.f {W : World} {g : Nat} {cs : Array Value} {t : TypeId} (h : Ms W g cs t) (i : Nat) : W.frozen? ⟨g, i, none⟩ = false := by
  simp [World.frozen?, show W.heap[g]? = _ from h]
theorem Ms.behind {W W' : World} {g : Nat} {cs : Array Value} {t : TypeId} (h : Ms W g cs t) (hb : Below W.heap.size W W') : Ms W' g cs t := (hb.block g h.lt).trans h
theorem Ms.drew {W : World} {g : Nat} {cs : Array Value} {t : TypeId} (h : Ms W g cs t) : Ms W.drew g cs t := h
theorem Ms.below {W W' : World} {g B : Nat} {cs : Array Value} {t : TypeId} (h : Ms W g cs t) (hb : Below B W W') (hg : g < B) : Ms W' g cs t := (hb.block g hg).trans h
theorem mbox (w : World) (c : Array Value) (t : TypeId) (W : World) (h : W = w.alloc (.cells c t)) : Below w.heap.size w W ∧ Ms W w.heap.size c t := by
  subst h
  exact ⟨(Below.refl _ w).alloc (Nat.le_refl _) _, World.alloc_heap_new w _⟩

theorem New.cellFar {n : Nat} {W : World} {v : Value} {xs : List Nat} (h : New n W v xs) {p : Addr} (hp : p.block < n) (u : Value) : New n (W.setCell p u) v xs := by
  obtain ⟨S, h1, h2, h3⟩ := h
  rcases h3 with h3 | h3
  · subst h3
    refine ⟨S, ?_, by rw [World.size_setCell]; exact h2, .inl rfl⟩
    rcases h1 with h1 | ⟨_, _, e, _⟩
    · exact .inl h1
    · simp at e
  · exact ⟨S, h1.kept (Below.heap_setCell W p u S (by omega)), by rw [World.size_setCell]; exact h2, .inr h3⟩
theorem New.put3 {n g : Nat} {W : World} {v : Value} {xs : List Nat} (h : New n W v xs) (hg : g < n) (x y z : Value) : New n (((W.setCell ⟨g, 0, none⟩ x).setCell ⟨g, 1, none⟩ y).setCell ⟨g, 2, none⟩ z) v xs :=
  ((h.cellFar (p := ⟨g, 0, none⟩) hg x).cellFar (p := ⟨g, 1, none⟩) hg y).cellFar (p := ⟨g, 2, none⟩) hg z
theorem _root_.Go.RowKit.Below.put3 {B g : Nat} {w W : World} (h : Below B w W) (hg : B ≤ g) (x y z : Value) : Below B w (((W.setCell ⟨g, 0, none⟩ x).setCell ⟨g, 1, none⟩ y).setCell ⟨g, 2, none⟩ z) :=
  ((h.setCell (p := ⟨g, 0, none⟩) hg x).setCell (p := ⟨g, 1, none⟩) hg y).setCell (p := ⟨g, 2, none⟩) hg z
/-- function k has a body: a call enters it -/
def Enters (k : Nat) : Prop := ∀ (args : Array Value) (W : World), (callFunc k args).run Try.prog W = .ok (.enter k args) W
theorem enters_of {k : Nat} {fn : Func} {c : Code} (hf : Try.prog.funcs[k]? = some fn) (hname : (fn.name == "runtime.NumGoroutine") = false) (hb : fn.body = some c) : Enters k := by
  intro args W
  have h1 : fn.name ≠ "runtime.NumGoroutine" := by simpa using hname
  simp [callFunc, hf, h1, hb]
theorem shape_may {R C : Int} {w : World} : Calls Try.prog 71 #[.int .i64 R, .int .i64 C] w fun e W' => e = .returned (.bool (mayS R C)) ∧ w = W' := by
  by_cases k1 : 1 ≤ R <;> by_cases k2 : R ≤ 64 <;> by_cases k3 : 1 ≤ C <;> by_cases k4 : C ≤ 64
  all_goals
    simp only [mayS, k1, k2, k3, k4, decide_true, decide_false, Bool.and_true, Bool.and_false]
    go_enter Try.func71, Try.ntmps71
    go_wp2
    go_ret
    exact ⟨rfl, rfl⟩
theorem shape_check {a : Option Addr} {m cap : Nat} {R C : Int} {w : World} :
    Calls Try.prog 44 #[.agg #[.int .i64 R, .int .i64 C, .slice a m cap]] w fun e W' => e = .returned (.int .i64 (chkM R C m)) ∧ Below w.heap.size w W' := by
  obtain ⟨bx, G⟩ := mbox w #[.int .i64 R, .int .i64 C, .slice a m cap] 24 _ rfl
  have c00 := G.cell (i := 0) rfl
  have c01 := G.cell (i := 1) rfl
  have c02 := G.cell (i := 2) rfl
  have hs := fun w => shape_may (R := R) (C := C) (w := w)
  unfold chkM
  rw [mayM_mayS]
  cases hm : mayS R C
  · rw [hm] at hs
    rw [Bool.false_and]
    clear hm
    go_enter Try.func44, Try.ntmps44
    go_wp2_with fail
    refine (hs _).mono ?_
    rintro e w1 ⟨rfl, rfl⟩
    clear hs
    go_wp2
    go_ret
    exact ⟨rfl, bx⟩
  · rw [hm] at hs
    rw [Bool.true_and]
    have h4 := mayS_iff.1 hm
    have hp : IntKind.i64.wrap (R * C) = R * C := by
      have := Int.mul_le_mul h4.2.1 h4.2.2.2 (by omega) (by decide)
      have := Int.mul_nonneg (show 0 ≤ R by omega) (show 0 ≤ C by omega)
      exact IntWalk.i64_in _ (by omega)
    clear hm h4
    by_cases he : (m : Int) = R * C
    · have hb : ((m : Int) != R * C) = false := by simp [he]
      rw [decide_eq_true he]
      clear he
      go_enter Try.func44, Try.ntmps44
      go_wp2_with fail
      refine (hs _).mono ?_
      rintro e w1 ⟨rfl, rfl⟩
      clear hs
      go_wp2
      go_ret
      exact ⟨rfl, bx⟩
    · have hb : ((m : Int) != R * C) = true := bne_iff_ne.2 he
      rw [decide_eq_false he]
      clear he
      go_enter Try.func44, Try.ntmps44
      go_wp2_with fail
      refine (hs _).mono ?_
      rintro e w1 ⟨rfl, rfl⟩
      clear hs
      go_wp2
      go_ret
      exact ⟨rfl, bx⟩

set_option maxHeartbeats 2000000 in
/-- slices.IndexFunc over words, with a closure that tells -/
theorem indexFunc_u64 {k : Nat} {fs : Array Value} (P : Nat → Bool) {v : Value} {xs : List Nat} {w : World} (hA : Arg w v xs) (hn : xs.length ≤ 9223372036854775806) (he : Enters k)
    (hf : ∀ (x : Nat) (W : World), x ∈ xs → Below w.heap.size w W → Calls Try.prog k (#[.int .u64 (x : Int)] ++ fs) W fun e W' => e = .returned (.bool (P x)) ∧ Below W.heap.size W W') :
    Calls Try.prog 72 #[v, .func (.func k) #[] fs] w fun e W' => (∃ z : Int, e = .returned (.int .i64 z) ∧ decide (0 ≤ z) = xs.any P) ∧ Below w.heap.size w W' := by
  obtain ⟨S, a, cap, hS, rfl, hcap, HA⟩ := hA.opened
  have HF := Lib.hid hf
  have HM : Hid (∀ k, k < xs.length → lim xs k ∈ xs) := Lib.hid (fun k hk => by unfold lim; rw [List.getElem?_eq_getElem hk]; exact List.getElem_mem hk)
  have HT : Hid (∀ k, k < xs.length → P (lim xs k) = true → xs.any P = true) := Lib.hid (fun k hk h => List.any_eq_true.2 ⟨_, HM.out k hk, h⟩)
  have HE : Hid ((∀ j, j < xs.length → P (lim xs j) = false) → xs.any P = false) := Lib.hid (fun h => by
    rw [List.any_eq_false]
    intro x hx
    obtain ⟨j, hj, rfl⟩ := List.getElem_of_mem hx
    have := h j hj
    unfold lim at this
    rw [List.getElem?_eq_getElem hj] at this
    simpa using this)
  have HEN := Lib.hid he
  clear hf hA hcap he
  generalize hm : xs.length = m at *
  clear hm
  go_enter Try.func72, Try.ntmps72
  go_wp2
  go_loopw [8] (fun i wr => ∃ q : Nat, q ≤ m ∧ i = .int .i64 q ∧ Hid (∀ j, j < q → P (lim xs j) = false) ∧ Below w.heap.size w wr) (fun i _ => m - (intOf i).toNat)
  case atStart => exact ⟨0, Nat.zero_le _, rfl, Lib.hid (fun j h => absurd h (by omega)), Below.refl _ _⟩
  case round =>
    obtain ⟨q, hq, rfl, HJ, hB⟩ := hrel
    by_cases hlt : q < m
    · obtain ⟨oa, rfl, ka⟩ := HA.out wr hB q hlt
      have hc := HF.out (lim xs q) wr (HM.out q hlt) hB
      have hen := HEN.out (#[.int .u64 (lim xs q : Int)] ++ fs) wr
      cases hp : P (lim xs q)
      · rw [hp] at hc
        have HP := Lib.hid hp
        clear hp
        go_wp2_with fail
        refine hc.mono ?_
        rintro e w2 ⟨rfl, b2⟩
        clear hc
        replace hB := below_both hB b2
        go_wp2
        go_roundw
        case rel => exact ⟨q + 1, by omega, by simp, Lib.hid (fun j hj => by rcases Nat.lt_or_ge j q with h | h; exact HJ.out j h; obtain rfl : j = q := by omega
                                                                             exact HP.out), hB⟩
        case measure => simp [intOf]; omega
      · rw [hp] at hc
        have HP : Hid (xs.any P = true) := Lib.hid (HT.out q hlt hp)
        clear hp
        go_wp2_with fail
        refine hc.mono ?_
        rintro e w2 ⟨rfl, b2⟩
        clear hc
        replace hB := below_both hB b2
        go_wp2
        go_ret
        exact ⟨⟨q, rfl, by rw [HP.out]; simp⟩, hB⟩
    · obtain rfl : q = m := by omega
      clear hlt
      go_wp2
      go_ret
      exact ⟨⟨-1, rfl, by rw [HE.out HJ.out]; rfl⟩, hB⟩
theorem containsFunc_u64 {k : Nat} {fs : Array Value} (P : Nat → Bool) {v : Value} {xs : List Nat} {w : World} (hA : Arg w v xs) (hn : xs.length ≤ 9223372036854775806) (he : Enters k)
    (hf : ∀ (x : Nat) (W : World), x ∈ xs → Below w.heap.size w W → Calls Try.prog k (#[.int .u64 (x : Int)] ++ fs) W fun e W' => e = .returned (.bool (P x)) ∧ Below W.heap.size W W') :
    Calls Try.prog 47 #[v, .func (.func k) #[] fs] w fun e W' => e = .returned (.bool (xs.any P)) ∧ Below w.heap.size w W' := by
  have h := indexFunc_u64 P hA hn he hf
  generalize xs.any P = b at h ⊢
  clear hf hA he
  go_enter Try.func47, Try.ntmps47
  go_wp2_with fail
  refine h.mono ?_
  rintro e w1 ⟨⟨z, rfl, hz⟩, hb⟩
  clear h
  go_wp2
  go_ret
  exact ⟨rfl, hb⟩

theorem shape_notfin {x : Nat} {w : World} (hx : x < 18446744073709551616) : Calls Try.prog 45 #[.int .u64 (x : Int)] w fun e W' => e = .returned (.bool (decide (2 ≤ cls x))) ∧ Below w.heap.size w W' := by
  have hc := pclass1 (a := x) (w := w) (by omega)
  by_cases h : 2 ≤ cls x
  · have hd : decide ((1 : Int) < (cls x : Int)) = true := decide_eq_true (by omega)
    rw [decide_eq_true h]
    clear h
    generalize cls x = c at *
    go_enter Try.func45, Try.ntmps45
    go_wp2_with fail
    refine hc.mono ?_
    rintro e w1 ⟨rfl, rfl⟩
    clear hc
    go_wp2
    go_ret
    exact ⟨rfl, Below.refl _ _⟩
  · have hd : decide ((1 : Int) < (cls x : Int)) = false := decide_eq_false (by omega)
    rw [decide_eq_false h]
    clear h
    generalize cls x = c at *
    go_enter Try.func45, Try.ntmps45
    go_wp2_with fail
    refine hc.mono ?_
    rintro e w1 ⟨rfl, rfl⟩
    clear hc
    go_wp2
    go_ret
    exact ⟨rfl, Below.refl _ _⟩
theorem shape_finite {a : Option Addr} {m cap : Nat} {R C : Int} {xs : List Nat} {w : World} (hA : Arg w (.slice a m cap) xs) (hl : Low 18446744073709551616 xs) :
    Calls Try.prog 15 #[.agg #[.int .i64 R, .int .i64 C, .slice a m cap]] w fun e W' => e = .returned (.int .i64 (finM R C m xs)) ∧ Below w.heap.size w W' := by
  obtain ⟨bx, G⟩ := mbox w #[.int .i64 R, .int .i64 C, .slice a m cap] 24 _ rfl
  have hk := fun w => shape_check (a := a) (m := m) (cap := cap) (R := R) (C := C) (w := w)
  have hml : m = xs.length := by
    obtain ⟨a', c', e⟩ := hA.slice
    simp only [Value.slice.injEq] at e
    omega
  have HG := G
  have c00 := G.cell (i := 0) rfl
  have c01 := G.cell (i := 1) rfl
  have c02 := G.cell (i := 2) rfl
  cases hm : mayM R C m
  · have h1 : finM R C m xs = 11 := by unfold finM; rw [hm]; rfl
    have h2 : chkM R C m = 11 := by unfold chkM; rw [hm]; rfl
    rw [h2] at hk
    rw [h1]
    clear h1 h2 hm hml
    go_enter Try.func15, Try.ntmps15
    go_wp2_with fail
    refine (hk _).mono ?_
    rintro e w1 ⟨rfl, b1⟩
    clear hk
    go_wp2
    go_ret
    exact ⟨rfl, below_both bx b1⟩
  · have h1 : finM R C m xs = if xs.any (fun x => decide (2 ≤ cls x)) then 12 else 0 := by unfold finM; rw [hm, if_pos rfl, hml]; exact finU_any xs
    have h2 : chkM R C m = 0 := by unfold chkM; rw [hm]; rfl
    have hxn : xs.length ≤ 4096 := by
      have h := mayM_iff.1 hm
      have := Int.mul_le_mul h.2.1 h.2.2.2.1 (by omega) (by decide)
      omega
    rw [h2] at hk
    rw [h1]
    clear h1 h2 hm hml
    have hcf : ∀ W, Below w.heap.size w W → Calls Try.prog 47 #[.slice a m cap, .func (.func 45) #[] #[]] W fun e W' => e = .returned (.bool (xs.any fun x => decide (2 ≤ cls x))) ∧ Below W.heap.size W W' :=
      fun W hW => containsFunc_u64 (fun x => decide (2 ≤ cls x)) (hA.behind hW) (by omega) (enters_of Try.func45 (by kernel_rfl) rfl) (fun x W' hx _ => shape_notfin (hl x hx))
    have HCF := Lib.hid hcf
    clear hcf hA hl
    cases hany : xs.any (fun x => decide (2 ≤ cls x))
    all_goals
      rw [hany] at HCF
      clear hany
      go_enter Try.func15, Try.ntmps15
      go_wp2_with fail
      refine (hk _).mono ?_
      rintro e w1 ⟨rfl, b1⟩
      clear hk
      have c02 := (HG.behind b1).cell (i := 2) rfl
      have hB := below_both bx b1
      go_wp2_with fail
      refine (HCF.out _ hB).mono ?_
      rintro e w2 ⟨rfl, b2⟩
      replace hB := below_both hB b2
      go_wp2
      go_ret
      exact ⟨rfl, hB⟩
end Go.Proofs.Ytjapilpjahhimaa
