/- whole's Sign, Cmp, Of. -/
import Derived.Test.YtppbifijgkcpjaaWholeThree
import Derived.Lib.Hide
import Derived.IntWalk
namespace Go.Proofs.Ytppbifijgkcpjaa
open Go.RowKit Go.Shelf
attribute [local go_sem ↓] Go.wp_at_zero Go.wp_at_succ

theorem either_int (c : Bool) (p q : Int) (w : World) :
    Calls Try.prog 72 #[.bool c, .int .i64 p, .int .i64 q] w fun e W' => e = .returned (.int .i64 (if c then p else q)) ∧ w = W' := by
  cases c
  · go_enter Try.func72, Try.ntmps72
    go_wp2
    go_ret
    exact ⟨rfl, rfl⟩
  · go_enter Try.func72, Try.ntmps72
    go_wp2
    go_ret
    exact ⟨rfl, rfl⟩
theorem either_word (c : Bool) (p q : Int) (w : World) :
    Calls Try.prog 73 #[.bool c, .int .u64 p, .int .u64 q] w fun e W' => e = .returned (.int .u64 (if c then p else q)) ∧ w = W' := by
  cases c
  · go_enter Try.func73, Try.ntmps73
    go_wp2
    go_ret
    exact ⟨rfl, rfl⟩
  · go_enter Try.func73, Try.ntmps73
    go_wp2
    go_ret
    exact ⟨rfl, rfl⟩
theorem cmpZ_zero (s : Bool) {M : Nat} (h : M ≠ 0) : cmpZ (wn s M) 0 = if s then -1 else 1 := by
  cases s <;> simp [cmpZ, wn] <;> omega
theorem bits_num0 {va : Value} {i : Nat} {w : World} (hA : Num w va 0 i) (hi : i ≤ 17592186044416) :
    Calls Try.prog 25 #[va] w fun e W' => e = .returned (.int .i64 0) ∧ Below w.heap.size w W' := bits_num hA hi
set_option maxRecDepth 100000 in
theorem zsign {s : Bool} {a : Option Addr} {m cap : Nat} {x : Int} {i : Nat} {w : World} (hA : Wv w s a m cap x i) (hi : i ≤ 17592186044416) :
    Calls Try.prog 46 #[.agg #[.bool s, .slice a m cap]] w fun e W' => e = .returned (.int .i64 (cmpZ x 0)) ∧ Below w.heap.size w W' := by
  obtain ⟨M, h1, rfl⟩ := hA
  have hB := bel_alloc w (.cells #[.bool s, .slice a m cap] 53)
  have G := Bx.new w (.bool s) (.slice a m cap)
  by_cases h0 : M = 0
  · subst h0
    have e0 : cmpZ (wn s 0) 0 = 0 := by cases s <;> rfl
    rw [e0]
    clear e0
    go_enter Try.func46, Try.ntmps46
    go_wp2_with fail
    generalize (w.alloc (.cells #[.bool s, .slice a m cap] 53)) = W0 at hB G ⊢
    have hA := h1.behind hB
    have c0 := G.c0
    have c1 := G.c1
    go_wp2_with fail
    refine (bits_num0 hA hi).mono ?_
    rintro e w1 ⟨rfl, b1⟩
    go_wp2_with fail
    go_ret
    exact ⟨rfl, below_both hB b1⟩
  · have hn : ((nbits M : Int) == 0) = false := beq_eq_false_iff_ne.2 (fun h => h0 (nbits_eq_zero (by omega)))
    rw [cmpZ_zero s h0]
    go_enter Try.func46, Try.ntmps46
    go_wp2_with fail
    generalize (w.alloc (.cells #[.bool s, .slice a m cap] 53)) = W0 at hB G ⊢
    have hA := h1.behind hB
    have c0 := G.c0
    have c1 := G.c1
    go_wp2_with fail
    refine (bits_num hA hi).mono ?_
    rintro e w1 ⟨rfl, b1⟩
    clear c0 c1
    have G := G.behind b1
    have c0 := G.c0
    go_wp2_with fail
    refine (either_int s (-1) 1 _).mono ?_
    rintro e w2 ⟨rfl, rfl⟩
    go_wp2_with fail
    all_goals go_ret
    all_goals exact ⟨ret_int (by simp_all), below_both hB b1⟩
/-- what two whole numbers that have one sign are to each other -/
theorem cmp_one (s t : Bool) (M N : Nat) (h : cmpZ (wn s M) 0 = cmpZ (wn t N) 0) : cmpZ (wn s M) (wn t N) = cmpZ (wn s M) 0 * cmpN M N := by
  rw [← cmpZ_nat]
  revert h
  unfold cmpZ wn
  cases s <;> cases t <;> simp <;> (repeat' split) <;> intros <;> omega
theorem cmp_two (x y : Int) (h : cmpZ x 0 ≠ cmpZ y 0) : cmpZ x y = cmpZ (cmpZ x 0) (cmpZ y 0) := by
  revert h
  unfold cmpZ
  (repeat' split) <;> intros <;> omega
theorem cmpZ_bd (x y : Int) : -1 ≤ cmpZ x y ∧ cmpZ x y ≤ 1 := by
  unfold cmpZ
  (repeat' split) <;> omega
theorem cmpN_bd (x y : Nat) : -1 ≤ cmpN x y ∧ cmpN x y ≤ 1 := by
  unfold cmpN
  (repeat' split) <;> omega
theorem mul_wrap {p q : Int} (hp : -1 ≤ p ∧ p ≤ 1) (hq : -1 ≤ q ∧ q ≤ 1) : IntKind.i64.wrap (p * q) = p * q := by
  have h1 : p = -1 ∨ p = 0 ∨ p = 1 := by omega
  have h2 : q = -1 ∨ q = 0 ∨ q = 1 := by omega
  rcases h1 with rfl | rfl | rfl <;> rcases h2 with rfl | rfl | rfl <;> rfl
set_option maxRecDepth 100000 in
theorem zcmp_ne {s t : Bool} {a a' : Option Addr} {m cap m' cap' M N : Nat} {i j : Nat} {w : World} (hA : Num w (.slice a m cap) M i) (hC : Num w (.slice a' m' cap') N j) (hi : i ≤ 17592186044416) (hj : j ≤ 17592186044416) (hne : (cmpZ (wn s M) 0 == cmpZ (wn t N) 0) = false) (hne2 : (cmpZ (wn s M) 0 != cmpZ (wn t N) 0) = true) :
    Calls Try.prog 45 #[.agg #[.bool s, .slice a m cap], .agg #[.bool t, .slice a' m' cap']] w fun e W' => e = .returned (.int .i64 (cmpZ (wn s M) (wn t N))) ∧ Below w.heap.size w W' := by
  have zA : Wv w s a m cap (wn s M) i := ⟨M, hA, rfl⟩
  have zB : Wv w t a' m' cap' (wn t N) j := ⟨N, hC, rfl⟩
  have hb : ∀ (W : World), W = (w.alloc (.cells #[.bool s, .slice a m cap] 53)).alloc (.cells #[.bool t, .slice a' m' cap'] 53) → Below w.heap.size w W ∧ Bx W w.heap.size (.bool s) (.slice a m cap) ∧ Bx W (w.heap.size + 1) (.bool t) (.slice a' m' cap') := by
    rintro W rfl
    have h := boxes2 w (.bool s) (.slice a m cap) (.bool t) (.slice a' m' cap')
    exact ⟨h.1, h.2.1, h.2.2.1⟩
  go_enter Try.func45, Try.ntmps45
  go_wp2
  obtain ⟨hB, G, G2⟩ := hb _ rfl
  generalize (w.alloc (.cells #[.bool s, .slice a m cap] 53)).alloc (.cells #[.bool t, .slice a' m' cap'] 53) = W0 at hB G G2 ⊢
  have hA := hA.behind hB
  have hC := hC.behind hB
  have zA := zA.behind hB
  have zB := zB.behind hB
  clear hb
  have bd := (Below.refl (W0).heap.size (W0)).drew
  have hA := hA.behind bd
  have hC := hC.behind bd
  have zA := zA.behind bd
  have zB := zB.behind bd
  have G := G.behind bd
  have G2 := G2.behind bd
  have B0 := below_both hB bd
  clear bd
  have c0 := G.c0
  have c1 := G.c1
  have c2 := G2.c0
  have c3 := G2.c1
  go_region_held3 (fun w' => w'.cell? ⟨w.heap.size, 0, none⟩ = some (.bool s) ∧ w'.cell? ⟨w.heap.size, 1, none⟩ = some (.slice a m cap) ∧ w'.cell? ⟨w.heap.size + 1, 0, none⟩ = some (.bool t) ∧ w'.cell? ⟨w.heap.size + 1, 1, none⟩ = some (.slice a' m' cap')) (first | exact ⟨G.c0, G.c1, G2.c0, G2.c1⟩ | (refine ⟨?_, ?_, ?_, ?_⟩ <;> go_keep))
    (first
      | (have _ := B1; go_at_call 46; (first | (with_reducible refine (zsign zA hi).mono ?_) | (with_reducible refine (zsign zB hj).mono ?_)); rintro e w2 ⟨rfl, b2⟩; have zA := zA.behind b2; have zB := zB.behind b2; have hA := hA.behind b2; have hC := hC.behind b2; have G := G.behind b2; have G2 := G2.behind b2; have B2 := below_both B1 b2; clear b2)
      | (go_at_call 46; (first | (with_reducible refine (zsign zA hi).mono ?_) | (with_reducible refine (zsign zB hj).mono ?_)); rintro e w1 ⟨rfl, b1⟩; have zA := zA.behind b1; have zB := zB.behind b1; have hA := hA.behind b1; have hC := hC.behind b1; have G := G.behind b1; have G2 := G2.behind b1; have B1 := below_both B0 b1; clear b1))
  all_goals
    go_wp2_with fail
    refine (compareInt _ _ _).mono ?_
    rintro e w3 ⟨rfl, rfl⟩
    go_wp2_with fail
    go_ret
    exact ⟨ret_int (cmp_two _ _ (by simpa using hne)).symm, B2⟩
set_option maxRecDepth 100000 in
theorem zcmp_eq {s t : Bool} {a a' : Option Addr} {m cap m' cap' M N : Nat} {i j : Nat} {w : World} (hA : Num w (.slice a m cap) M i) (hC : Num w (.slice a' m' cap') N j) (hi : i ≤ 17592186044416) (hj : j ≤ 17592186044416) (heq : (cmpZ (wn s M) 0 == cmpZ (wn t N) 0) = true) (heq2 : (cmpZ (wn s M) 0 != cmpZ (wn t N) 0) = false) :
    Calls Try.prog 45 #[.agg #[.bool s, .slice a m cap], .agg #[.bool t, .slice a' m' cap']] w fun e W' => e = .returned (.int .i64 (cmpZ (wn s M) (wn t N))) ∧ Below w.heap.size w W' := by
  have zA : Wv w s a m cap (wn s M) i := ⟨M, hA, rfl⟩
  have zB : Wv w t a' m' cap' (wn t N) j := ⟨N, hC, rfl⟩
  have hb : ∀ (W : World), W = (w.alloc (.cells #[.bool s, .slice a m cap] 53)).alloc (.cells #[.bool t, .slice a' m' cap'] 53) → Below w.heap.size w W ∧ Bx W w.heap.size (.bool s) (.slice a m cap) ∧ Bx W (w.heap.size + 1) (.bool t) (.slice a' m' cap') := by
    rintro W rfl
    have h := boxes2 w (.bool s) (.slice a m cap) (.bool t) (.slice a' m' cap')
    exact ⟨h.1, h.2.1, h.2.2.1⟩
  go_enter Try.func45, Try.ntmps45
  go_wp2
  obtain ⟨hB, G, G2⟩ := hb _ rfl
  generalize (w.alloc (.cells #[.bool s, .slice a m cap] 53)).alloc (.cells #[.bool t, .slice a' m' cap'] 53) = W0 at hB G G2 ⊢
  have hA := hA.behind hB
  have hC := hC.behind hB
  have zA := zA.behind hB
  have zB := zB.behind hB
  clear hb
  have bd := (Below.refl (W0).heap.size (W0)).drew
  have hA := hA.behind bd
  have hC := hC.behind bd
  have zA := zA.behind bd
  have zB := zB.behind bd
  have G := G.behind bd
  have G2 := G2.behind bd
  have B0 := below_both hB bd
  clear bd
  have c0 := G.c0
  have c1 := G.c1
  have c2 := G2.c0
  have c3 := G2.c1
  go_region_held3 (fun w' => w'.cell? ⟨w.heap.size, 0, none⟩ = some (.bool s) ∧ w'.cell? ⟨w.heap.size, 1, none⟩ = some (.slice a m cap) ∧ w'.cell? ⟨w.heap.size + 1, 0, none⟩ = some (.bool t) ∧ w'.cell? ⟨w.heap.size + 1, 1, none⟩ = some (.slice a' m' cap')) (first | exact ⟨G.c0, G.c1, G2.c0, G2.c1⟩ | (refine ⟨?_, ?_, ?_, ?_⟩ <;> go_keep))
    (first
      | (have _ := B1; go_at_call 46; (first | (with_reducible refine (zsign zA hi).mono ?_) | (with_reducible refine (zsign zB hj).mono ?_)); rintro e w2 ⟨rfl, b2⟩; have zA := zA.behind b2; have zB := zB.behind b2; have hA := hA.behind b2; have hC := hC.behind b2; have G := G.behind b2; have G2 := G2.behind b2; have B2 := below_both B1 b2; clear b2)
      | (go_at_call 46; (first | (with_reducible refine (zsign zA hi).mono ?_) | (with_reducible refine (zsign zB hj).mono ?_)); rintro e w1 ⟨rfl, b1⟩; have zA := zA.behind b1; have zB := zB.behind b1; have hA := hA.behind b1; have hC := hC.behind b1; have G := G.behind b1; have G2 := G2.behind b1; have B1 := below_both B0 b1; clear b1))
  all_goals
    have d0 := G.c0
    have d1 := G.c1
    have d2 := G2.c0
    have d3 := G2.c1
    go_wp2_with fail
    refine (cmp_num hA hC hi hj).mono ?_
    rintro e w3 ⟨rfl, b3⟩
    have hw : IntKind.i64.wrap (cmpZ (wn s M) 0 * cmpN M N) = cmpZ (wn s M) 0 * cmpN M N := mul_wrap (cmpZ_bd _ _) (cmpN_bd _ _)
    go_wp2_with fail
    go_ret
    exact ⟨ret_int (cmp_one s t M N (by simpa using heq)).symm, below_both B2 b3⟩
theorem zcmp {s t : Bool} {a a' : Option Addr} {m cap m' cap' : Nat} {x y : Int} {i j : Nat} {w : World} (hA : Wv w s a m cap x i) (hB : Wv w t a' m' cap' y j) (hi : i ≤ 17592186044416) (hj : j ≤ 17592186044416) :
    Calls Try.prog 45 #[.agg #[.bool s, .slice a m cap], .agg #[.bool t, .slice a' m' cap']] w fun e W' => e = .returned (.int .i64 (cmpZ x y)) ∧ Below w.heap.size w W' := by
  obtain ⟨M, h1, rfl⟩ := hA
  obtain ⟨N, h2, rfl⟩ := hB
  by_cases h : cmpZ (wn s M) 0 = cmpZ (wn t N) 0
  · exact zcmp_eq h1 h2 hi hj (by simpa using h) (by simpa using h)
  · exact zcmp_ne h1 h2 hi hj (by simpa using h) (by simpa using h)
end Go.Proofs.Ytppbifijgkcpjaa
