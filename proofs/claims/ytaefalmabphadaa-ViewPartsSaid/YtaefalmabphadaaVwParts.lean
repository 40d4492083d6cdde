/- vernierlaw15.ViewParts, walked. -/
import Derived.Test.YtaefalmabphadaaVwLaw
import Derived.Deep.RegionHeld3
import Derived.Deep.DeepCutAuto
namespace Go.Proofs.Ytaefalmabphadaa
open Go.RowKit Go.Shelf
theorem outP_iff {R C i j rows cols : Int} : outP R C i j rows cols = true ↔ i < 0 ∨ j < 0 ∨ rows < 0 ∨ cols < 0 ∨ R < i ∨ C < j ∨ R - i < rows ∨ C - j < cols := by
  unfold outP
  exact decide_eq_true_iff
theorem outP_not {R C i j rows cols : Int} : outP R C i j rows cols = false ↔ ¬ i < 0 ∧ ¬ j < 0 ∧ ¬ rows < 0 ∧ ¬ cols < 0 ∧ ¬ R < i ∧ ¬ C < j ∧ ¬ R - i < rows ∧ ¬ C - j < cols := by
  unfold outP
  rw [decide_eq_false_iff_not]
  simp only [not_or]
set_option maxRecDepth 100000 in
set_option maxHeartbeats 8000000 in
theorem viewParts_calls {a : Option Addr} {m cap : Nat} {R C S O i j rows cols : Int} {xs : List Nat} {w : World} (hA : Arg w (.slice a m cap) xs) (hl : Low 18446744073709551616 xs) (hn : xs.length ≤ 17592186044416) (h1 : -9223372036854775808 ≤ i ∧ i < 9223372036854775808) (h2 : -9223372036854775808 ≤ j ∧ j < 9223372036854775808) (h3 : -9223372036854775808 ≤ rows ∧ rows < 9223372036854775808) (h4 : -9223372036854775808 ≤ cols ∧ cols < 9223372036854775808) :
    Calls Try.prog 6 #[.slice a m cap, .agg #[.int .i64 R, .int .i64 C, .int .i64 S, .int .i64 O], .int .i64 i, .int .i64 j, .int .i64 rows, .int .i64 cols] w fun e W' => e = .returned (.bool true) ∧ Below w.heap.size w W' := by
  obtain ⟨bx, G1⟩ := wbox w #[.int .i64 R, .int .i64 C, .int .i64 S, .int .i64 O] 38 _ rfl
  have hm1 := fun w => may15 (R := R) (C := C) (S := S) (O := O) (words := 1048576) (w := w) (by decide) (by decide)
  have hml : m ≤ 17592186044416 := by
    obtain ⟨T, _, hR⟩ := hA
    obtain ⟨_, _, he, _⟩ := hR.slice
    simp only [Value.slice.injEq] at he
    omega
  by_cases hv : mayW R C S O 1048576 = true
  · rw [hv] at hm1
    obtain ⟨k1, k2, k3, k4, k5, k6, k7, k8, _⟩ := mayW_iff.1 hv
    by_cases ho : outP R C i j rows cols = true
    · have hp := fun w => view_part_out (w := w) hv ho
      have how := outP_iff.1 ho
      clear hv h3 h4 hl hn hml hA ho
      go_enter Try.func6, Try.ntmps6
      go_wp2_with fail
      generalize (w.alloc (.cells #[.int .i64 R, .int .i64 C, .int .i64 S, .int .i64 O] 38)) = W0 at bx G1 ⊢
      refine (vwalive W0).mono ?_
      rintro e w1 ⟨rfl, b1⟩
      replace G1 := G1.behind b1
      replace bx := below_both bx b1
      clear b1
      have c00 := G1.cell (i := 0) rfl
      have c01 := G1.cell (i := 1) rfl
      have c02 := G1.cell (i := 2) rfl
      have c03 := G1.cell (i := 3) rfl
      go_wp2_with fail
      refine (hp _).mono ?_
      rintro e w2 ⟨rfl, b2⟩
      obtain ⟨by2, G3⟩ := wbox w2 #[.int .i64 0, .int .i64 0, .int .i64 0, .int .i64 0] 38 _ rfl
      replace G1 := (G1.behind b2).behind by2
      replace bx := below_both (below_both bx b2) by2
      clear b2 by2 c00 c01 c02 c03 hp
      have c00 := G1.cell (i := 0) rfl
      have c01 := G1.cell (i := 1) rfl
      have c02 := G1.cell (i := 2) rfl
      have c03 := G1.cell (i := 3) rfl
      go_wp2_with fail
      refine (hm1 _).mono ?_
      rintro e w3 ⟨rfl, b3⟩
      replace G1 := G1.behind b3
      replace G3 := G3.behind b3
      replace bx := below_both bx b3
      clear c00 c01 c02 c03
      have c00 : w3.cell? ⟨w.heap.size, 0, none⟩ = some (.int .i64 R) := G1.cell (i := 0) rfl
      have c01 : w3.cell? ⟨w.heap.size, 1, none⟩ = some (.int .i64 C) := G1.cell (i := 1) rfl
      have d00 : w3.cell? ⟨w2.heap.size, 0, none⟩ = some (.int .i64 0) := G3.cell (i := 0) rfl
      have d01 : w3.cell? ⟨w2.heap.size, 1, none⟩ = some (.int .i64 0) := G3.cell (i := 1) rfl
      have d02 : w3.cell? ⟨w2.heap.size, 2, none⟩ = some (.int .i64 0) := G3.cell (i := 2) rfl
      have d03 : w3.cell? ⟨w2.heap.size, 3, none⟩ = some (.int .i64 0) := G3.cell (i := 3) rfl
      have how8 : (i < 0) ∨ (¬ i < 0 ∧ j < 0) ∨ (¬ i < 0 ∧ ¬ j < 0 ∧ rows < 0) ∨ (¬ i < 0 ∧ ¬ j < 0 ∧ ¬ rows < 0 ∧ cols < 0) ∨ (¬ i < 0 ∧ ¬ j < 0 ∧ ¬ rows < 0 ∧ ¬ cols < 0 ∧ R < i) ∨ (¬ i < 0 ∧ ¬ j < 0 ∧ ¬ rows < 0 ∧ ¬ cols < 0 ∧ ¬ R < i ∧ C < j) ∨ (¬ i < 0 ∧ ¬ j < 0 ∧ ¬ rows < 0 ∧ ¬ cols < 0 ∧ ¬ R < i ∧ ¬ C < j ∧ R - i < rows) ∨ (¬ i < 0 ∧ ¬ j < 0 ∧ ¬ rows < 0 ∧ ¬ cols < 0 ∧ ¬ R < i ∧ ¬ C < j ∧ ¬ R - i < rows ∧ C - j < cols) := by omega
      clear how
      rcases how8 with o1 | ⟨o1, o2⟩ | ⟨o1, o2, o3⟩ | ⟨o1, o2, o3, o4⟩ | ⟨o1, o2, o3, o4, o5⟩ | ⟨o1, o2, o3, o4, o5, o6⟩ | ⟨o1, o2, o3, o4, o5, o6, o7⟩ | ⟨o1, o2, o3, o4, o5, o6, o7, o8⟩
      all_goals
        go_wp2
        go_ret
        exact ⟨rfl, bx⟩
    · have ho' : outP R C i j rows cols = false := by simpa using ho
      have hp := fun w => view_part (w := w) hv ho'
      obtain ⟨o1, o2, o3, o4, o5, o6, o7, o8⟩ := outP_not.1 ho'
      have hm2 := fun w => may15 (R := R) (C := C) (S := S) (O := O) (words := (m : Int)) (w := w) (by omega) (by omega)
      have hpp := fun (r c : Int) (hm : mayW R C S O m = true) (q1 : 0 ≤ r) (q2 : r < rows) (q3 : 0 ≤ c) (q4 : c < cols) => part_place (xs := xs) hv hm ho' q1 q2 q3 q4
      obtain ⟨P, hP⟩ : ∃ P, O + i * S + j = P := ⟨_, rfl⟩
      rw [hP] at hp hpp
      have hg1 := fun (W : World) (hW : Arg W (.slice a m cap) xs) (r c : Int) => view_get (R := rows) (C := cols) (S := S) (O := P) (i := r) (j := c) hW
      have hg2 := fun (W : World) (hW : Arg W (.slice a m cap) xs) (r c : Int) => view_get (R := R) (C := C) (S := S) (O := O) (i := r) (j := c) hW
      have HPP := Lib.hid hpp
      have HG1 := Lib.hid hg1
      have HG2 := Lib.hid hg2
      clear hpp hg1 hg2 hP ho ho' hv
      go_enter Try.func6, Try.ntmps6
      go_wp2_with fail
      generalize (w.alloc (.cells #[.int .i64 R, .int .i64 C, .int .i64 S, .int .i64 O] 38)) = W0 at bx G1 ⊢
      refine (vwalive W0).mono ?_
      rintro e w1 ⟨rfl, b1⟩
      replace G1 := G1.behind b1
      replace bx := below_both bx b1
      clear b1
      have c00 := G1.cell (i := 0) rfl
      have c01 := G1.cell (i := 1) rfl
      have c02 := G1.cell (i := 2) rfl
      have c03 := G1.cell (i := 3) rfl
      go_wp2_with fail
      refine (hp _).mono ?_
      rintro e w2 ⟨rfl, b2⟩
      obtain ⟨by2, G3⟩ := wbox w2 #[.int .i64 rows, .int .i64 cols, .int .i64 S, .int .i64 P] 38 _ rfl
      replace G1 := (G1.behind b2).behind by2
      replace bx := below_both (below_both bx b2) by2
      clear b2 by2 c00 c01 c02 c03 hp
      have c00 := G1.cell (i := 0) rfl
      have c01 := G1.cell (i := 1) rfl
      have c02 := G1.cell (i := 2) rfl
      have c03 := G1.cell (i := 3) rfl
      go_wp2_with fail
      refine (hm1 _).mono ?_
      rintro e w3 ⟨rfl, b3⟩
      replace G1 := G1.behind b3
      replace G3 := G3.behind b3
      replace bx := below_both bx b3
      clear b3 c00 c01 c02 c03 hm1
      have c00 : w3.cell? ⟨w.heap.size, 0, none⟩ = some (.int .i64 R) := G1.cell (i := 0) rfl
      have c01 : w3.cell? ⟨w.heap.size, 1, none⟩ = some (.int .i64 C) := G1.cell (i := 1) rfl
      have c02 : w3.cell? ⟨w.heap.size, 2, none⟩ = some (.int .i64 S) := G1.cell (i := 2) rfl
      have c03 : w3.cell? ⟨w.heap.size, 3, none⟩ = some (.int .i64 O) := G1.cell (i := 3) rfl
      have d00 : w3.cell? ⟨w2.heap.size, 0, none⟩ = some (.int .i64 rows) := G3.cell (i := 0) rfl
      have d01 : w3.cell? ⟨w2.heap.size, 1, none⟩ = some (.int .i64 cols) := G3.cell (i := 1) rfl
      go_wp2_with fail
      refine (hm2 _).mono ?_
      rintro e w4 ⟨rfl, b4⟩
      replace G1 := G1.behind b4
      replace G3 := G3.behind b4
      replace bx := below_both bx b4
      clear b4 c00 c01 c02 c03 d00 d01 hm2
      by_cases hm : mayW R C S O m = true
      · rw [hm]
        have HPQ : Hid (∀ r c : Int, 0 ≤ r → r < rows → 0 ≤ c → c < cols → getW xs m rows cols S P r c = getW xs m R C S O (i + r) (j + c)) := Lib.hid fun r c => HPP.out r c hm
        have hA4 := hA.behind bx
        have HX1 : Hid (∀ W, Below w4.heap.size w4 W → ∀ r c : Int, Calls Try.prog 28 #[.slice a m cap, .agg #[.int .i64 rows, .int .i64 cols, .int .i64 S, .int .i64 P], .int .i64 r, .int .i64 c] W fun e W' => e = .returned (.int .u64 (getW xs m rows cols S P r c : Int)) ∧ Below W.heap.size W W') := Lib.hid fun W h r c => HG1.out W (hA4.behind h) r c
        have HX2 : Hid (∀ W, Below w4.heap.size w4 W → ∀ r c : Int, Calls Try.prog 28 #[.slice a m cap, .agg #[.int .i64 R, .int .i64 C, .int .i64 S, .int .i64 O], .int .i64 r, .int .i64 c] W fun e W' => e = .returned (.int .u64 (getW xs m R C S O r c : Int)) ∧ Below W.heap.size W W') := Lib.hid fun W h r c => HG2.out W (hA4.behind h) r c
        obtain ⟨rr, hrr⟩ : ∃ rr : Nat, rows = rr := ⟨rows.toNat, by omega⟩
        obtain ⟨cc, hcc⟩ : ∃ cc : Nat, cols = cc := ⟨cols.toNat, by omega⟩
        have z1 : i ≤ 64 := by omega
        have z2 : j ≤ 64 := by omega
        have z3 : rr ≤ 64 := by omega
        have z4 : cc ≤ 64 := by omega
        have z5 : 0 ≤ i := by omega
        have z6 : 0 ≤ j := by omega
        subst hrr hcc
        clear HPP HG1 HG2 hA hA4 hm hl hn hml h1 h2 h3 h4 k1 k2 k3 k4 k5 k6 k7 k8 o1 o2 o3 o4 o5 o6 o7 o8
        go_wp2
        go_loopw [15] (fun x wr => ∃ k : Nat, k ≤ rr ∧ x = .int .i64 k ∧ Below w4.heap.size w4 wr) (fun x _ => rr - (intOf x).toNat)
        case atStart => exact ⟨0, by omega, rfl, Below.refl _ _⟩
        case round =>
          obtain ⟨k, hk, rfl, hW⟩ := hrel
          by_cases hlt : k < rr
          · go_wp2
            go_loopw [16] (fun x wr => ∃ l : Nat, l ≤ cc ∧ x = .int .i64 l ∧ Below w4.heap.size w4 wr) (fun x _ => cc - (intOf x).toNat)
            case atStart => exact ⟨0, by omega, rfl, hW⟩
            case round =>
              obtain ⟨l, hl2, rfl, hW2⟩ := hrel
              by_cases hlt2 : l < cc
              · have heq := HPQ.out k l (by omega) (by omega) (by omega) (by omega)
                have X1 := fun W h => HX1.out W h (k : Int) (l : Int)
                have w1 : IntKind.i64.wrap (i + (k : Int)) = i + k := IntWalk.i64_in _ (by omega)
                have w2 : IntKind.i64.wrap (j + (l : Int)) = j + l := IntWalk.i64_in _ (by omega)
                have X2 := fun W h => HX2.out W h (IntKind.i64.wrap (i + (k : Int))) (IntKind.i64.wrap (j + (l : Int)))
                have heq2 : getW xs m R C S O (IntKind.i64.wrap (i + (k : Int))) (IntKind.i64.wrap (j + (l : Int))) = getW xs m R C S O (i + k) (j + l) := by rw [w1, w2]
                rw [heq2] at X2
                rw [heq] at X1
                clear heq2 w1 w2
                generalize getW xs m R C S O (i + k) (j + l) = v at *
                have Y1 := Lib.hid X1
                have Y2 := Lib.hid X2
                clear heq X1 X2
                have Br := hW2
                go_upto_region 18 with (fail)
                go_region_held3 (fun w' => w'.cell? ⟨w.heap.size, 0, none⟩ = some (.int .i64 R) ∧ w'.cell? ⟨w.heap.size, 1, none⟩ = some (.int .i64 C) ∧ w'.cell? ⟨w.heap.size, 2, none⟩ = some (.int .i64 S) ∧ w'.cell? ⟨w.heap.size, 3, none⟩ = some (.int .i64 O) ∧ w'.cell? ⟨w2.heap.size, 0, none⟩ = some (.int .i64 (rr : Int)) ∧ w'.cell? ⟨w2.heap.size, 1, none⟩ = some (.int .i64 (cc : Int)) ∧ w'.cell? ⟨w2.heap.size, 2, none⟩ = some (.int .i64 S) ∧ w'.cell? ⟨w2.heap.size, 3, none⟩ = some (.int .i64 P))
                  (first | with_reducible exact ⟨(G1.behind Br).cell rfl, (G1.behind Br).cell rfl, (G1.behind Br).cell rfl, (G1.behind Br).cell rfl, (G3.behind Br).cell rfl, (G3.behind Br).cell rfl, (G3.behind Br).cell rfl, (G3.behind Br).cell rfl⟩ | with_reducible exact ⟨(G1.behind Br.drew).cell rfl, (G1.behind Br.drew).cell rfl, (G1.behind Br.drew).cell rfl, (G1.behind Br.drew).cell rfl, (G3.behind Br.drew).cell rfl, (G3.behind Br.drew).cell rfl, (G3.behind Br.drew).cell rfl, (G3.behind Br.drew).cell rfl⟩ | (refine ⟨?_, ?_, ?_, ?_, ?_, ?_, ?_, ?_⟩ <;> go_keep))
                  (first
                    | (go_at_call 28; (with_reducible refine (Y1.out _ (by first | with_reducible exact Br | with_reducible exact Br.drew)).mono ?_); rintro e v4 ⟨rfl, bz⟩; replace Br : Below w4.heap.size w4 v4 := (by first | with_reducible exact below_both Br bz | with_reducible exact below_both Br.drew bz); clear bz)
                    | (go_at_call 28; (with_reducible refine (Y2.out _ (by first | with_reducible exact Br | with_reducible exact Br.drew)).mono ?_); rintro e v4 ⟨rfl, bz⟩; replace Br : Below w4.heap.size w4 v4 := (by first | with_reducible exact below_both Br bz | with_reducible exact below_both Br.drew bz); clear bz))
                clear Y1 Y2
                go_wp2
                go_roundw
                case rel => exact ⟨l + 1, by omega, by simp, Br⟩
                case measure => simp [intOf]; omega
              · obtain rfl : l = cc := by omega
                clear hlt2
                go_wp2
                go_roundw
                case rel => exact ⟨k + 1, by omega, by simp, hW2⟩
                case measure => simp [intOf]; omega
          · obtain rfl : k = rr := by omega
            clear hlt
            go_wp2
            go_ret
            exact ⟨rfl, below_both bx hW⟩
      · have hm' : mayW R C S O m = false := by simpa using hm
        rw [hm']
        clear hm hm' HPP HG1 HG2
        go_wp2
        go_ret
        exact ⟨rfl, bx⟩
  · have hv' : mayW R C S O 1048576 = false := by simpa using hv
    have hp := fun w => view_part_no (i := i) (j := j) (rows := rows) (cols := cols) (w := w) hv'
    rw [hv'] at hm1
    clear hv hv' h1 h2 h3 h4 hl hn hml hA
    go_enter Try.func6, Try.ntmps6
    go_wp2_with fail
    generalize (w.alloc (.cells #[.int .i64 R, .int .i64 C, .int .i64 S, .int .i64 O] 38)) = W0 at bx G1 ⊢
    refine (vwalive W0).mono ?_
    rintro e w1 ⟨rfl, b1⟩
    replace G1 := G1.behind b1
    replace bx := below_both bx b1
    clear b1
    have c00 := G1.cell (i := 0) rfl
    have c01 := G1.cell (i := 1) rfl
    have c02 := G1.cell (i := 2) rfl
    have c03 := G1.cell (i := 3) rfl
    go_wp2_with fail
    refine (hp _).mono ?_
    rintro e w2 ⟨rfl, b2⟩
    obtain ⟨by2, G3⟩ := wbox w2 #[.int .i64 0, .int .i64 0, .int .i64 0, .int .i64 0] 38 _ rfl
    replace G1 := (G1.behind b2).behind by2
    replace bx := below_both (below_both bx b2) by2
    clear b2 by2 c00 c01 c02 c03 hp
    have c00 := G1.cell (i := 0) rfl
    have c01 := G1.cell (i := 1) rfl
    have c02 := G1.cell (i := 2) rfl
    have c03 := G1.cell (i := 3) rfl
    go_wp2_with fail
    refine (hm1 _).mono ?_
    rintro e w3 ⟨rfl, b3⟩
    replace G3 := G3.behind b3
    replace bx := below_both bx b3
    clear c00 c01 c02 c03
    have d00 : w3.cell? ⟨w2.heap.size, 0, none⟩ = some (.int .i64 0) := G3.cell (i := 0) rfl
    have d01 : w3.cell? ⟨w2.heap.size, 1, none⟩ = some (.int .i64 0) := G3.cell (i := 1) rfl
    have d02 : w3.cell? ⟨w2.heap.size, 2, none⟩ = some (.int .i64 0) := G3.cell (i := 2) rfl
    have d03 : w3.cell? ⟨w2.heap.size, 3, none⟩ = some (.int .i64 0) := G3.cell (i := 3) rfl
    go_wp2
    go_ret
    exact ⟨rfl, bx⟩
end Go.Proofs.Ytaefalmabphadaa
