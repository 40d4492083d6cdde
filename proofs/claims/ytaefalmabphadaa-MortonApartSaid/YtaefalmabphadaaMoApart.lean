/- vernierlaw16.MortonApart, walked. -/
import Derived.Test.YtaefalmabphadaaMoLaw
namespace Go.Proofs.Ytaefalmabphadaa
open Go.RowKit Go.Shelf
set_option maxRecDepth 100000 in
set_option maxHeartbeats 4000000 in
theorem mortonApart_calls {i j k l y : Nat} {w : World} (hi : (i : Int) ≤ 65535) (hj : (j : Int) ≤ 65535) (hk : (k : Int) ≤ 65535) (hl : (l : Int) ≤ 65535) (hy : (y : Int) ≤ 255) :
    Calls Try.prog 10 #[.int .u16 (i : Int), .int .u16 (j : Int), .int .u16 (k : Int), .int .u16 (l : Int), .int .u8 (y : Int)] w fun e W' => e = .returned (.bool true) ∧ Below w.heap.size w W' := by
  obtain ⟨t, ht⟩ : ∃ t, t = 1 + y % 8 := ⟨_, rfl⟩
  have ht1 : 1 ≤ t := by omega
  have ht8 : t ≤ 8 := by omega
  have hm : (y : Int) % 8 = ((y % 8 : Nat) : Int) := by omega
  have hm2 : (1 : Int) + ((y % 8 : Nat) : Int) = (t : Int) := by omega
  have hal := l_alive16
  have h1 := fun w => mo_index (i := i) (j := j) (t := t) (w := w) (by omega) (by omega) ht1 ht8
  have h2 := fun w => mo_index (i := k) (j := l) (t := t) (w := w) (by omega) (by omega) ht1 ht8
  have c1 : IntKind.i64.wrap (i : Int) = (i : Int) := IntWalk.i64_in _ (by omega)
  have c2 : IntKind.i64.wrap (j : Int) = (j : Int) := IntWalk.i64_in _ (by omega)
  have c3 : IntKind.i64.wrap (k : Int) = (k : Int) := IntWalk.i64_in _ (by omega)
  have c4 : IntKind.i64.wrap (l : Int) = (l : Int) := IntWalk.i64_in _ (by omega)
  have c5 : IntKind.i64.wrap (y : Int) = (y : Int) := IntWalk.i64_in _ (by omega)
  have HT := Lib.hid ht
  have hE : (plc i j t = plc k l t) = (i = k ∧ j = l) := propext ⟨fun h => plc_inj (by omega) (by omega) (by omega) (by omega) (by omega) h, fun h => by rw [h.1, h.2]⟩
  have HE := Lib.hid hE
  clear hE ht
  generalize y % 8 = m at *
  generalize plc i j t = P at *
  generalize plc k l t = Q at *
  have fin : ∀ (b1 b2 : Bool), (((P : Int) == (Q : Int)) == (b1 && b2)) = true ∨ True := fun _ _ => .inr trivial
  clear fin
  by_cases e1 : i = k
  · by_cases e2 : j = l
    · have d0 : ((P : Int) == (Q : Int)) = true := by have := HE.out.symm ▸ (⟨e1, e2⟩ : i = k ∧ j = l); rw [this]; simp
      have d1 : ((i : Int) == (k : Int)) = true := by rw [e1]; simp
      have d2 : ((j : Int) == (l : Int)) = true := by rw [e2]; simp
      clear e1 e2
      go_enter Try.func10, Try.ntmps10
      go_wp2_with fail
      refine (hal _).mono ?_
      rintro e w1 ⟨rfl, b1⟩
      go_wp2_with fail
      refine (h1 _).mono ?_
      rintro e w2 ⟨rfl, n1, rfl⟩
      go_wp2_with fail
      refine (h2 _).mono ?_
      rintro e w2 ⟨rfl, n2, rfl⟩
      go_wp2
      go_ret
      exact ⟨rfl, below_both b1 (below_drewN _ _ _)⟩
    · have d0 : ((P : Int) == (Q : Int)) = false := beq_eq_false_iff_ne.2 (fun h => e2 (HE.out ▸ (show P = Q by omega)).2)
      have d1 : ((i : Int) == (k : Int)) = true := by rw [e1]; simp
      have d2 : ((j : Int) == (l : Int)) = false := beq_eq_false_iff_ne.2 (by omega)
      clear e1 e2
      go_enter Try.func10, Try.ntmps10
      go_wp2_with fail
      refine (hal _).mono ?_
      rintro e w1 ⟨rfl, b1⟩
      go_wp2_with fail
      refine (h1 _).mono ?_
      rintro e w2 ⟨rfl, n1, rfl⟩
      go_wp2_with fail
      refine (h2 _).mono ?_
      rintro e w2 ⟨rfl, n2, rfl⟩
      go_wp2
      go_ret
      exact ⟨rfl, below_both b1 (below_drewN _ _ _)⟩
  · have d0 : ((P : Int) == (Q : Int)) = false := beq_eq_false_iff_ne.2 (fun h => e1 (HE.out ▸ (show P = Q by omega)).1)
    have d1 : ((i : Int) == (k : Int)) = false := beq_eq_false_iff_ne.2 (by omega)
    clear e1
    go_enter Try.func10, Try.ntmps10
    go_wp2_with fail
    refine (hal _).mono ?_
    rintro e w1 ⟨rfl, b1⟩
    go_wp2_with fail
    refine (h1 _).mono ?_
    rintro e w2 ⟨rfl, n1, rfl⟩
    go_wp2_with fail
    refine (h2 _).mono ?_
    rintro e w2 ⟨rfl, n2, rfl⟩
    go_wp2
    go_ret
    exact ⟨rfl, below_both b1 (below_drewN _ _ _)⟩
end Go.Proofs.Ytaefalmabphadaa
