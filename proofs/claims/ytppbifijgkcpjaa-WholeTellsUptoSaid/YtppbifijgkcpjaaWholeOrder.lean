/- vernierlaw03.WholeOrder: true, whatever the whole numbers. -/
import Derived.Test.YtppbifijgkcpjaaWholeFive
import Derived.Lib.Hide
import Derived.IntWalk
namespace Go.Proofs.Ytppbifijgkcpjaa
open Go.RowKit Go.Shelf
theorem field_one (b : Bool) (a : Option Addr) (m c : Nat) (w : World) : Sem.run Try.prog (Instr.field 53 (.agg #[.bool b, .slice a m c]) 1) w = .ok (.slice a m c) w := rfl
attribute [local go_sem ↓] Go.wp_at_zero Go.wp_at_succ field_one

theorem Wv.num {w : World} {s : Bool} {a : Option Addr} {m cap : Nat} {z : Int} {k : Nat} (h : Wv w s a m cap z k) : Num w (.slice a m cap) z.natAbs k := by
  obtain ⟨M, h1, rfl⟩ := h
  rw [wn_abs]; exact h1
theorem cmp_zero {va vb : Value} {M N i j : Nat} {w : World} (hA : Num w va M i) (hB : Num w vb N j) (h : M = N) (hi : i ≤ 17592186044416) (hj : j ≤ 17592186044416) :
    Calls Try.prog 23 #[va, vb] w fun e W' => e = .returned (.int .i64 0) ∧ Below w.heap.size w W' := by
  subst h
  have := cmp_num hA hB hi hj
  rwa [cmpN_self] at this
theorem zcmp_is {s t : Bool} {a a' : Option Addr} {m cap m' cap' : Nat} {x y c : Int} {i j : Nat} {w : World} (hA : Wv w s a m cap x i) (hB : Wv w t a' m' cap' y j) (hi : i ≤ 17592186044416) (hj : j ≤ 17592186044416) (h : cmpZ x y = c) :
    Calls Try.prog 45 #[.agg #[.bool s, .slice a m cap], .agg #[.bool t, .slice a' m' cap']] w fun e W' => e = .returned (.int .i64 c) ∧ Below w.heap.size w W' := by
  subst h
  exact zcmp hA hB hi hj
set_option maxRecDepth 100000 in
set_option maxHeartbeats 4000000 in
theorem order_walk {s t r : Bool} {a a' a'' : Option Addr} {m cap m' cap' m'' cap'' : Nat} {x y z : Int} {i : Nat} {w : World} (hi : i ≤ 17592186043904) (zA : Wv w s a m cap x i) (zB : Wv w t a' m' cap' y i) (zC : Wv w r a'' m'' cap'' z i) :
    Calls Try.prog 13 #[.agg #[.bool s, .slice a m cap], .agg #[.bool t, .slice a' m' cap'], .agg #[.bool r, .slice a'' m'' cap'']] w fun e W' => e = .returned (.bool true) ∧ Below w.heap.size w W' := by
  have hcc : cmpZ (x + z) (y + z) = cmpZ x y ∧ cmpZ (-x) (-y) = -cmpZ x y := by
    unfold cmpZ
    constructor <;> ((repeat' split) <;> omega)
  have hbd := cmpZ_bd x y
  have zcm : ∀ {w : World} {i j : Nat}, Wv w s a m cap x i → Wv w t a' m' cap' y j → i ≤ 17592186044416 → j ≤ 17592186044416 → Calls Try.prog 45 #[.agg #[.bool s, .slice a m cap], .agg #[.bool t, .slice a' m' cap']] w fun e W' => e = .returned (.int .i64 (cmpZ x y)) ∧ Below w.heap.size w W' := fun h1 h2 h3 h4 => zcmp h1 h2 h3 h4
  generalize cmpZ x y = c at hcc hbd zcm
  obtain ⟨hb1, hb2⟩ := hbd
  have hw1 : IntKind.i64.wrap c = c := IntWalk.i64_in _ (by omega)
  have hw2 : IntKind.i64.wrap (-c) = -c := IntWalk.i64_in _ (by omega)
  have hw3 : IntKind.i64.wrap (- -c) = c := by rw [Int.neg_neg]; exact hw1
  have HC := Lib.hid hcc
  clear hcc
  go_enter Try.func13, Try.ntmps13
  go_wp2_with fail
  have hb := boxes3 w (.bool s) (.slice a m cap) (.bool t) (.slice a' m' cap') (.bool r) (.slice a'' m'' cap'')
  generalize ((w.alloc (.cells #[.bool s, .slice a m cap] 53)).alloc (.cells #[.bool t, .slice a' m' cap'] 53)).alloc (.cells #[.bool r, .slice a'' m'' cap''] 53) = W0 at hb ⊢
  obtain ⟨hB, G, G2, G3, hsz⟩ := hb
  have zA := zA.behind hB
  have zB := zB.behind hB
  have zC := zC.behind hB
  refine (walive _).mono ?_
  rintro e w1 ⟨rfl, b1⟩
  have zA := zA.behind b1
  have zB := zB.behind b1
  have zC := zC.behind b1
  have G := G.behind b1
  have G2 := G2.behind b1
  have G3 := G3.behind b1
  have B1 := below_both hB b1
  have c0 := G.c0
  have c1 := G.c1
  have c2 := G2.c0
  have c3 := G2.c1
  have c4 := G3.c0
  have c5 := G3.c1
  go_wp2_with fail
  refine (zcm zA zB (by omega) (by omega)).mono ?_
  rintro e w2 ⟨rfl, b2⟩
  clear zcm c0 c1 c2 c3 c4 c5
  have zA := zA.behind b2
  have zB := zB.behind b2
  have zC := zC.behind b2
  have G := G.behind b2
  have G2 := G2.behind b2
  have G3 := G3.behind b2
  have B2 := below_both B1 b2
  go_wp2_with fail
  have bd := (Below.refl (w2).heap.size (w2)).drew
  have zA := zA.behind bd
  have zB := zB.behind bd
  have zC := zC.behind bd
  have G := G.behind bd
  have G2 := G2.behind bd
  have G3 := G3.behind bd
  have B3 := below_both B2 bd
  clear bd
  clear b1 b2 hB B1
  have c0 := G.c0
  have c1 := G.c1
  have c2 := G2.c0
  have c3 := G2.c1
  have c4 := G3.c0
  have c5 := G3.c1
  go_region_held3 (fun w' => w'.cell? ⟨w.heap.size, 0, none⟩ = some (.bool s) ∧ w'.cell? ⟨w.heap.size, 1, none⟩ = some (.slice a m cap) ∧ w'.cell? ⟨w.heap.size + 1, 0, none⟩ = some (.bool t) ∧ w'.cell? ⟨w.heap.size + 1, 1, none⟩ = some (.slice a' m' cap') ∧ w'.cell? ⟨w.heap.size + 2, 0, none⟩ = some (.bool r) ∧ w'.cell? ⟨w.heap.size + 2, 1, none⟩ = some (.slice a'' m'' cap'')) (first | exact ⟨G.c0, G.c1, G2.c0, G2.c1, G3.c0, G3.c1⟩ | (refine ⟨?_, ?_, ?_, ?_, ?_, ?_⟩ <;> go_keep))
    (first
      | (have _ := Bq7; go_at_call 23; (with_reducible refine (cmp_zero h7.num zA.num (Int.natAbs_neg x) (by omega) (by omega)).mono ?_); rintro e wq8 ⟨rfl, bq8⟩; have G := G.behind bq8; have G2 := G2.behind bq8; have G3 := G3.behind bq8; have Bq8 := below_both Bq7 bq8; clear bq8)
      | (have _ := Bq6; go_at_call 48; (with_reducible refine (zneg zA (by omega)).mono ?_); rintro e wq7 ⟨s7, a7, m7, k7, rfl, h7, n7, bq7⟩; have zA := zA.behind bq7; have G := G.behind bq7; have G2 := G2.behind bq7; have G3 := G3.behind bq7; have Bq7 := below_both Bq6 bq7; clear bq7)
      | (have _ := Bq5; go_at_call 45; (with_reducible refine (zcmp_is h4 h5 (by omega) (by omega) HC.out.2).mono ?_); rintro e wq6 ⟨rfl, bq6⟩; have zA := zA.behind bq6; have G := G.behind bq6; have G2 := G2.behind bq6; have G3 := G3.behind bq6; have Bq6 := below_both Bq5 bq6; clear bq6)
      | (have _ := Bq4; go_at_call 48; (with_reducible refine (zneg zB (by omega)).mono ?_); rintro e wq5 ⟨s5, a5, m5, k5, rfl, h5, n5, bq5⟩; have zA := zA.behind bq5; have G := G.behind bq5; have G2 := G2.behind bq5; have G3 := G3.behind bq5; have h4 := h4.behind bq5; have Bq5 := below_both Bq4 bq5; clear bq5)
      | (have _ := Bq3; go_at_call 48; (with_reducible refine (zneg zA (by omega)).mono ?_); rintro e wq4 ⟨s4, a4, m4, k4, rfl, h4, n4, bq4⟩; have zA := zA.behind bq4; have zB := zB.behind bq4; have G := G.behind bq4; have G2 := G2.behind bq4; have G3 := G3.behind bq4; have Bq4 := below_both Bq3 bq4; clear bq4)
      | (have _ := Bq2; go_at_call 45; (with_reducible refine (zcmp_is h1 h2 (by omega) (by omega) HC.out.1).mono ?_); rintro e wq3 ⟨rfl, bq3⟩; have zA := zA.behind bq3; have zB := zB.behind bq3; have G := G.behind bq3; have G2 := G2.behind bq3; have G3 := G3.behind bq3; have Bq3 := below_both Bq2 bq3; clear bq3)
      | (have _ := Bq1; go_at_call 42; (with_reducible refine (zadd zB zC (by omega) (by omega)).mono ?_); rintro e wq2 ⟨s2, a2, m2, k2, rfl, h2, n2, bq2⟩; have zA := zA.behind bq2; have zB := zB.behind bq2; have G := G.behind bq2; have G2 := G2.behind bq2; have G3 := G3.behind bq2; have h1 := h1.behind bq2; have Bq2 := below_both Bq1 bq2; clear bq2)
      | (go_at_call 42; (with_reducible refine (zadd zA zC (by omega) (by omega)).mono ?_); rintro e wq1 ⟨s1, a1, m1, k1, rfl, h1, n1, bq1⟩; have zA := zA.behind bq1; have zB := zB.behind bq1; have zC := zC.behind bq1; have G := G.behind bq1; have G2 := G2.behind bq1; have G3 := G3.behind bq1; have Bq1 := below_both B3 bq1; clear bq1))
  go_wp2
  go_ret
  exact ⟨rfl, Bq8⟩
end Go.Proofs.Ytppbifijgkcpjaa
