/- vernierlaw04's may, same, alive. -/
import Derived.Test.YthipbonhkcjcfaaDoorDyAbove
import Derived.Test.YthipbonhkcjcfaaDoorRefShl
namespace Go.Proofs.YthipbonhkcjcfaaDoor
open Go.RowKit Go.Shelf
attribute [local go_sem ↓] Go.wp_at_zero Go.wp_at_succ

theorem lmay (s : Bool) (a : Option Addr) (m cap : Nat) (E : Int) (w : World) :
    Calls Tryd.prog 12 #[.agg #[.bool s, .slice a m cap, .int .i64 E]] w fun e W' => e = .returned (.bool (mayB m E)) ∧ Below w.heap.size w W' := by
  have hb := dbox1 w #[.bool s, .slice a m cap, .int .i64 E] 24 _ rfl
  by_cases h1 : -16384 ≤ E
  · by_cases h2 : E ≤ 16384
    · by_cases hm : m ≤ 1024
      · rw [mayB_iff.2 ⟨h1, h2, hm⟩]
        have hd : decide ((m : Int) ≤ 1024) = true := decide_eq_true (by omega)
        have hn : decide (m ≤ 1024) = true := decide_eq_true hm
        go_enter Tryd.func12, Tryd.ntmps12
        go_wp2_with fail
        obtain ⟨hB, G, -⟩ := hb
        generalize (w.alloc (.cells #[.bool s, .slice a m cap, .int .i64 E] 24)) = W0 at hB G ⊢
        have c1 := G.cell (i := 1) rfl
        have c2 := G.cell (i := 2) rfl
        go_wp2
        go_ret
        exact ⟨rfl, hB⟩
      · have hf : mayB m E = false := by have := @mayB_iff m E; simp only [Bool.eq_false_iff, ne_eq, this]; omega
        rw [hf]
        have hd : decide ((m : Int) ≤ 1024) = false := decide_eq_false (by omega)
        have hn : decide (m ≤ 1024) = false := decide_eq_false hm
        clear hf
        go_enter Tryd.func12, Tryd.ntmps12
        go_wp2_with fail
        obtain ⟨hB, G, -⟩ := hb
        generalize (w.alloc (.cells #[.bool s, .slice a m cap, .int .i64 E] 24)) = W0 at hB G ⊢
        have c1 := G.cell (i := 1) rfl
        have c2 := G.cell (i := 2) rfl
        go_wp2
        go_ret
        exact ⟨rfl, hB⟩
    · have hf : mayB m E = false := by have := @mayB_iff m E; simp only [Bool.eq_false_iff, ne_eq, this]; omega
      rw [hf]
      clear hf
      go_enter Tryd.func12, Tryd.ntmps12
      go_wp2_with fail
      obtain ⟨hB, G, -⟩ := hb
      generalize (w.alloc (.cells #[.bool s, .slice a m cap, .int .i64 E] 24)) = W0 at hB G ⊢
      have c1 := G.cell (i := 1) rfl
      have c2 := G.cell (i := 2) rfl
      go_wp2
      go_ret
      exact ⟨rfl, hB⟩
  · have hf : mayB m E = false := by have := @mayB_iff m E; simp only [Bool.eq_false_iff, ne_eq, this]; omega
    rw [hf]
    clear hf
    go_enter Tryd.func12, Tryd.ntmps12
    go_wp2_with fail
    obtain ⟨hB, G, -⟩ := hb
    generalize (w.alloc (.cells #[.bool s, .slice a m cap, .int .i64 E] 24)) = W0 at hB G ⊢
    have c1 := G.cell (i := 1) rfl
    have c2 := G.cell (i := 2) rfl
    go_wp2
    go_ret
    exact ⟨rfl, hB⟩
theorem lmay_is {s : Bool} {a : Option Addr} {m cap : Nat} {E : Int} {b : Bool} (h : mayB m E = b) (w : World) :
    Calls Tryd.prog 12 #[.agg #[.bool s, .slice a m cap, .int .i64 E]] w fun e W' => e = .returned (.bool b) ∧ Below w.heap.size w W' := by
  subst h
  exact lmay s a m cap E w
set_option maxRecDepth 100000 in
theorem lsame {n n' : Nat} {s : Bool} {a a' : Option Addr} {m cap m' cap' N : Nat} {x : Int} {w : World} (hA : New n w (.slice a m cap) (digs 18446744073709551616 N)) (hB : New n' w (.slice a' m' cap') (digs 18446744073709551616 N)) (hl : (digs 18446744073709551616 N).length ≤ 9223372036854775806) :
    Calls Tryd.prog 13 #[.agg #[.bool s, .slice a m cap, .int .i64 x], .agg #[.bool s, .slice a' m' cap', .int .i64 x]] w fun e W' => e = .returned (.bool true) ∧ Below w.heap.size w W' := by
  have hb := dbox2 w #[.bool s, .slice a m cap, .int .i64 x] #[.bool s, .slice a' m' cap', .int .i64 x] 24 24
  go_enter Tryd.func13, Tryd.ntmps13
  go_wp2_with fail
  obtain ⟨hW, G, G2, hsz⟩ := hb _ rfl
  generalize ((w.alloc (.cells #[.bool s, .slice a m cap, .int .i64 x] 24)).alloc (.cells #[.bool s, .slice a' m' cap', .int .i64 x] 24)) = W0 at hW G G2 hsz ⊢
  clear hb
  have c0 := G.cell (i := 0) rfl
  have c1 := G.cell (i := 1) rfl
  have c2 := G.cell (i := 2) rfl
  have c3 := G2.cell (i := 0) rfl
  have c4 := G2.cell (i := 1) rfl
  have c5 := G2.cell (i := 2) rfl
  have hA := (hA.behind hW).arg
  have hB := (hB.behind hW).arg
  have HL := Lib.hid hl
  clear hl
  go_wp2_with fail
  refine (same_arg hA hB HL.out).mono ?_
  rintro e w1 ⟨rfl, b1⟩
  clear hA hB
  go_wp2_with fail
  go_ret
  exact ⟨rfl, below_both hW b1⟩
theorem told_twelve : tld (decide ((12 : Int) < 0)) (12 : Int).natAbs 0 = ⟨false, 3, 2⟩ := by
  have h : tz 12 = 2 := tz_pow 2 1
  show tld false 12 0 = _
  rw [tld_pos _ (by decide), h]
  rfl
theorem fits_three : fits ⟨false, 3, 2⟩ = true := by
  rw [fits_iff]
  dsimp only
  rw [digs_small (by decide) (by decide) (by decide)]
  decide
set_option maxRecDepth 100000 in
theorem lalive (w : World) (hT : TabOk w) : Calls Tryd.prog 7 #[] w fun e W' => e = .returned (.bool true) ∧ Below w.heap.size w W' := by
  go_enter Tryd.func7, Tryd.ntmps7
  go_wp2_with fail
  refine (dof (n := 12) (E := 0) (by decide) (by decide) hT).mono ?_
  rintro e w1 ⟨ta, tm, tc, ts, tn, tx, tq, rfl, nt, b1, hR, hQ⟩
  rw [if_pos (by decide), told_twelve, outD, if_pos fits_three] at hR
  rw [if_pos (by decide), told_twelve, outE, if_pos fits_three] at hQ
  obtain ⟨rfl, rfl, rfl⟩ := dn_eq hR
  subst hQ
  dsimp only at *
  rw [digs_small (by decide) (by decide) (by decide)] at nt
  obtain ⟨S, off, rfl, rfl, hc⟩ := nt.one
  have hSl : S < w1.heap.size := by
    obtain ⟨o, ho, _⟩ := cells_of_cell hc
    exact (Array.getElem?_eq_some_iff.1 ho).1
  have b2 := bel_alloc w1 (.cells #[.bool false, .slice (some ⟨S, off, none⟩) 1 tc, .int .i64 2] 24)
  have hc2 := (b2.cell (p := ⟨S, off, none⟩) hSl).trans hc
  have B2 := below_both b1 b2
  clear nt b1 b2 hR
  go_wp2
  go_ret
  exact ⟨rfl, B2⟩
end Go.Proofs.YthipbonhkcjcfaaDoor
