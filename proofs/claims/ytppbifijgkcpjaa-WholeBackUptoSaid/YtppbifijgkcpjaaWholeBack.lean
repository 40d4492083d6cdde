/- vernierlaw03.WholeBack: true, whatever the whole numbers. -/
import Derived.Test.YtppbifijgkcpjaaWholeFive
import Derived.Lib.Hide
import Derived.IntWalk
namespace Go.Proofs.Ytppbifijgkcpjaa
open Go.RowKit Go.Shelf
theorem field_one (b : Bool) (a : Option Addr) (m c : Nat) (w : World) : Sem.run Try.prog (Instr.field 53 (.agg #[.bool b, .slice a m c]) 1) w = .ok (.slice a m c) w := rfl
attribute [local go_sem ↓] Go.wp_at_zero Go.wp_at_succ field_one

set_option maxRecDepth 100000 in
set_option maxHeartbeats 8000000 in
theorem back_walk {s t r : Bool} {a a' a'' : Option Addr} {m cap m' cap' m'' cap'' : Nat} {x y z : Int} {i : Nat} {w : World} (hi : i ≤ 1048576) (zA : Wv w s a m cap x i) (zB : Wv w t a' m' cap' y i) (zC : Wv w r a'' m'' cap'' z i) :
    Calls Try.prog 12 #[.agg #[.bool s, .slice a m cap], .agg #[.bool t, .slice a' m' cap'], .agg #[.bool r, .slice a'' m'' cap'']] w fun e W' => e = .returned (.bool true) ∧ Below w.heap.size w W' := by
  go_enter Try.func12, Try.ntmps12
  go_wp2_with fail
  have hb := boxes3 w (.bool s) (.slice a m cap) (.bool t) (.slice a' m' cap') (.bool r) (.slice a'' m'' cap'')
  generalize ((w.alloc (.cells #[.bool s, .slice a m cap] 53)).alloc (.cells #[.bool t, .slice a' m' cap'] 53)).alloc (.cells #[.bool r, .slice a'' m'' cap''] 53) = W0 at hb ⊢
  obtain ⟨hB, G, G2, G3, hsz⟩ := hb
  have zA := zA.behind hB
  have zB := zB.behind hB
  have zC := zC.behind hB
  refine (walive _).mono ?_
  rintro e w1 ⟨rfl, b1⟩
  have zA := zA.behind b1
  have zB := zB.behind b1
  have zC := zC.behind b1
  have G := G.behind b1
  have G2 := G2.behind b1
  have G3 := G3.behind b1
  have B1 := below_both hB b1
  go_wp2_with fail
  have bd := (Below.refl (w1).heap.size (w1)).drew
  have zA := zA.behind bd
  have zB := zB.behind bd
  have zC := zC.behind bd
  have G := G.behind bd
  have G2 := G2.behind bd
  have G3 := G3.behind bd
  have B3 := below_both B1 bd
  clear bd
  clear b1 hB
  have c0 := G.c0
  have c1 := G.c1
  have c2 := G2.c0
  have c3 := G2.c1
  have c4 := G3.c0
  have c5 := G3.c1
  go_region_held3 (fun w' => w'.cell? ⟨w.heap.size, 0, none⟩ = some (.bool s) ∧ w'.cell? ⟨w.heap.size, 1, none⟩ = some (.slice a m cap) ∧ w'.cell? ⟨w.heap.size + 1, 0, none⟩ = some (.bool t) ∧ w'.cell? ⟨w.heap.size + 1, 1, none⟩ = some (.slice a' m' cap') ∧ w'.cell? ⟨w.heap.size + 2, 0, none⟩ = some (.bool r) ∧ w'.cell? ⟨w.heap.size + 2, 1, none⟩ = some (.slice a'' m'' cap'')) (first | exact ⟨G.c0, G.c1, G2.c0, G2.c1, G3.c0, G3.c1⟩ | (refine ⟨?_, ?_, ?_, ?_, ?_, ?_⟩ <;> go_keep))
    (first
      | (have _ := Bq13; go_at_call 41; (with_reducible refine (zsame nb nc (by omega) hb.lt (by omega)).mono ?_); rintro e wq14 ⟨rfl, bq14⟩; have G := G.behind bq14; have G2 := G2.behind bq14; have G3 := G3.behind bq14; have Bq14 := below_both Bq13 bq14; clear bq14)
      | (have _ := Bq12; go_at_call 47; (with_reducible refine (znorm zA (by omega)).mono ?_); rintro e wq13 ⟨sc, ac, mc, kc, rfl, hc, nc, bq13⟩; have G := G.behind bq13; have G2 := G2.behind bq13; have G3 := G3.behind bq13; have hb := hb.behind bq13; have nb := nb.behind bq13; have Bq13 := below_both Bq12 bq13; clear bq13)
      | (have _ := Bq11; go_at_call 48; (with_reducible refine (zneg ha (by omega)).mono ?_); rintro e wq12 ⟨sb, ab, mb, kb, rfl, hb, nb, bq12⟩; have zA := zA.behind bq12; have G := G.behind bq12; have G2 := G2.behind bq12; have G3 := G3.behind bq12; have Bq12 := below_both Bq11 bq12; clear bq12)
      | (have _ := Bq10; go_at_call 48; (with_reducible refine (zneg zA (by omega)).mono ?_); rintro e wq11 ⟨sa, aa, ma, ka, rfl, ha, na, bq11⟩; have zA := zA.behind bq11; have G := G.behind bq11; have G2 := G2.behind bq11; have G3 := G3.behind bq11; have Bq11 := below_both Bq10 bq11; clear bq11)
      | (have _ := Bq9; go_at_call 41; (with_reducible refine (zsame n6 n9 (Int.mul_add _ _ _) h6.lt (by omega)).mono ?_); rintro e wq10 ⟨rfl, bq10⟩; have zA := zA.behind bq10; have G := G.behind bq10; have G2 := G2.behind bq10; have G3 := G3.behind bq10; have Bq10 := below_both Bq9 bq10; clear bq10)
      | (have _ := Bq8; go_at_call 42; (with_reducible refine (zadd h7 h8 (by omega) (by omega)).mono ?_); rintro e wq9 ⟨s9, a9, m9, k9, rfl, h9, n9, bq9⟩; have zA := zA.behind bq9; have G := G.behind bq9; have G2 := G2.behind bq9; have G3 := G3.behind bq9; have h6 := h6.behind bq9; have n6 := n6.behind bq9; have Bq9 := below_both Bq8 bq9; clear bq9)
      | (have _ := Bq7; go_at_call 44; (with_reducible refine (zmul zA zC (by omega)).mono ?_); rintro e wq8 ⟨s8, a8, m8, k8, rfl, h8, n8, bq8⟩; have zA := zA.behind bq8; have G := G.behind bq8; have G2 := G2.behind bq8; have G3 := G3.behind bq8; have h6 := h6.behind bq8; have n6 := n6.behind bq8; have h7 := h7.behind bq8; have Bq8 := below_both Bq7 bq8; clear bq8)
      | (have _ := Bq6; go_at_call 44; (with_reducible refine (zmul zA zB (by omega)).mono ?_); rintro e wq7 ⟨s7, a7, m7, k7, rfl, h7, n7, bq7⟩; have zA := zA.behind bq7; have zC := zC.behind bq7; have G := G.behind bq7; have G2 := G2.behind bq7; have G3 := G3.behind bq7; have h6 := h6.behind bq7; have n6 := n6.behind bq7; have Bq7 := below_both Bq6 bq7; clear bq7)
      | (have _ := Bq5; go_at_call 44; (with_reducible refine (zmul zA h5 (by omega)).mono ?_); rintro e wq6 ⟨s6, a6, m6, k6, rfl, h6, n6, bq6⟩; have zA := zA.behind bq6; have zB := zB.behind bq6; have zC := zC.behind bq6; have G := G.behind bq6; have G2 := G2.behind bq6; have G3 := G3.behind bq6; have Bq6 := below_both Bq5 bq6; clear bq6)
      | (have _ := Bq4; go_at_call 42; (with_reducible refine (zadd zB zC (by omega) (by omega)).mono ?_); rintro e wq5 ⟨s5, a5, m5, k5, rfl, h5, n5, bq5⟩; have zA := zA.behind bq5; have zB := zB.behind bq5; have zC := zC.behind bq5; have G := G.behind bq5; have G2 := G2.behind bq5; have G3 := G3.behind bq5; have Bq5 := below_both Bq4 bq5; clear bq5)
      | (have _ := Bq3; go_at_call 41; (with_reducible refine (zsame n2 n3 (by omega) h2.lt (by omega)).mono ?_); rintro e wq4 ⟨rfl, bq4⟩; have zA := zA.behind bq4; have zB := zB.behind bq4; have zC := zC.behind bq4; have G := G.behind bq4; have G2 := G2.behind bq4; have G3 := G3.behind bq4; have Bq4 := below_both Bq3 bq4; clear bq4)
      | (have _ := Bq2; go_at_call 47; (with_reducible refine (znorm zA (by omega)).mono ?_); rintro e wq3 ⟨s3, a3, m3, k3, rfl, h3, n3, bq3⟩; have zA := zA.behind bq3; have zB := zB.behind bq3; have zC := zC.behind bq3; have G := G.behind bq3; have G2 := G2.behind bq3; have G3 := G3.behind bq3; have h2 := h2.behind bq3; have n2 := n2.behind bq3; have Bq3 := below_both Bq2 bq3; clear bq3)
      | (have _ := Bq1; go_at_call 42; (with_reducible refine (zadd h1 zB (by omega) (by omega)).mono ?_); rintro e wq2 ⟨s2, a2, m2, k2, rfl, h2, n2, bq2⟩; have zA := zA.behind bq2; have zB := zB.behind bq2; have zC := zC.behind bq2; have G := G.behind bq2; have G2 := G2.behind bq2; have G3 := G3.behind bq2; have Bq2 := below_both Bq1 bq2; clear bq2)
      | (go_at_call 43; (with_reducible refine (zsub zA zB (by omega) (by omega)).mono ?_); rintro e wq1 ⟨s1, a1, m1, k1, rfl, h1, n1, bq1⟩; have zA := zA.behind bq1; have zB := zB.behind bq1; have zC := zC.behind bq1; have G := G.behind bq1; have G2 := G2.behind bq1; have G3 := G3.behind bq1; have Bq1 := below_both B3 bq1; clear bq1))
  go_wp2
  go_ret
  exact ⟨rfl, Bq14⟩
end Go.Proofs.Ytppbifijgkcpjaa
