/- vernierlaw16.MortonBack, walked. -/
import Derived.Test.YtaefalmabphadaaMoFromW
import Derived.Test.YtaefalmabphadaaMoTo
namespace Go.Proofs.Ytaefalmabphadaa
open Go.RowKit Go.Shelf
theorem mo_to_no {a : Option Addr} {m cap : Nat} {R C t : Int} {w : World} (h : mayM R C m = false) :
    Calls Try.prog 41 #[.agg #[.int .i64 R, .int .i64 C, .slice a m cap], .int .i64 t] w fun e W' => e = .returned (.tuple #[.slice none 0 0, .int .i64 11]) ∧ Below w.heap.size w W' := by
  have hk := fun w => shape_check (a := a) (m := m) (cap := cap) (R := R) (C := C) (w := w)
  rw [show chkM R C m = 11 by unfold chkM; rw [h]; rfl] at hk
  obtain ⟨bx, G⟩ := mbox w #[.int .i64 R, .int .i64 C, .slice a m cap] 24 _ rfl
  have c00 := G.cell (i := 0) rfl
  have c01 := G.cell (i := 1) rfl
  have c02 := G.cell (i := 2) rfl
  clear h
  go_enter Try.func41, Try.ntmps41
  go_wp2_with fail
  refine (hk _).mono ?_
  rintro e w1 ⟨rfl, b1⟩
  clear hk
  go_wp2
  go_ret2
  exact ⟨rfl, below_both bx b1⟩
theorem mo_to_tile {a : Option Addr} {m cap : Nat} {R C t : Int} {w : World} (h : mayM R C m = true) (h0 : sideOK R C t = false) (h1 : -9223372036854775808 ≤ t) (h2 : t ≤ 9223372036854775807) :
    Calls Try.prog 41 #[.agg #[.int .i64 R, .int .i64 C, .slice a m cap], .int .i64 t] w fun e W' => e = .returned (.tuple #[.slice none 0 0, .int .i64 11]) ∧ Below w.heap.size w W' := by
  have hk := fun w => shape_check (a := a) (m := m) (cap := cap) (R := R) (C := C) (w := w)
  rw [show chkM R C m = 0 by unfold chkM; rw [h]; rfl] at hk
  have hz := fun w => mo_size_no (w := w) h0 h1 h2
  obtain ⟨bx, G⟩ := mbox w #[.int .i64 R, .int .i64 C, .slice a m cap] 24 _ rfl
  have HG := G
  have c00 := G.cell (i := 0) rfl
  have c01 := G.cell (i := 1) rfl
  have c02 := G.cell (i := 2) rfl
  clear h h0 h1 h2
  go_enter Try.func41, Try.ntmps41
  go_wp2_with fail
  refine (hk _).mono ?_
  rintro e w1 ⟨rfl, b1⟩
  clear hk
  have c00 := (HG.behind b1).cell (i := 0) rfl
  have c01 := (HG.behind b1).cell (i := 1) rfl
  go_wp2_with fail
  refine (hz _).mono ?_
  rintro e w2 ⟨rfl, rfl⟩
  go_wp2
  go_ret2
  exact ⟨rfl, below_both bx b1⟩
theorem layW_length (R C t : Nat) (xs : List Nat) : (layW R C t xs).length = sizN (max R C) t := stw_length _ _ _ _ _
set_option maxRecDepth 100000 in
set_option maxHeartbeats 8000000 in
theorem mortonBack_calls {a : Option Addr} {m cap : Nat} {R C t : Int} {xs : List Nat} {w : World} (hA : Arg w (.slice a m cap) xs) (h1 : -9223372036854775808 ≤ t) (h2 : t ≤ 9223372036854775807) :
    Calls Try.prog 9 #[.agg #[.int .i64 R, .int .i64 C, .slice a m cap], .int .i64 t] w fun e W' => e = .returned (.bool true) ∧ Below w.heap.size w W' := by
  have hal := l_alive16
  obtain ⟨bx, G⟩ := mbox w #[.int .i64 R, .int .i64 C, .slice a m cap] 24 _ rfl
  by_cases hok : mayM R C m = true ∧ 1 ≤ t ∧ t ≤ 8
  · obtain ⟨hm, t1, t8⟩ := hok
    have hm' := mayM_iff.1 hm
    obtain ⟨r, rfl⟩ : ∃ r : Nat, R = r := ⟨R.toNat, by omega⟩
    obtain ⟨c, rfl⟩ : ∃ r : Nat, C = r := ⟨C.toNat, by omega⟩
    obtain ⟨s, rfl⟩ : ∃ r : Nat, t = r := ⟨t.toNat, by omega⟩
    have hml := sized_of' hA
    have hlen : xs.length = r * c := by rw [← hml]; have := hm'.2.2.2.2; exact_mod_cast this
    have hN := sizN_le (M := max r c) (t := s) (by omega) (by omega) (by omega)
    have hT := fun (W : World) (h : Arg W (.slice a m cap) xs) => mo_to h hm (t := s) (by omega) (by omega)
    have hF := fun (W : World) (b : Option Addr) (n k : Nat) (h : Arg W (.slice b n k) (layW r c s xs)) (hn : n = sizN (max r c) s) => mo_from (R := r) (C := c) (t := s) h (by omega) (by omega) (by omega) (by omega) (by omega) (by omega) hn
    rw [layW_back (by omega) (by omega) (by omega) hlen] at hF
    have hcn := layW_count (R := r) (C := c) (t := s) (xs := xs) (by omega) (by omega) (by omega) hlen
    have hll := layW_length r c s xs
    have hwp : IntKind.i64.wrap ((r : Int) * (c : Int)) = (m : Int) := by rw [hml, hlen, Int.natCast_mul]; exact IntWalk.i64_in _ (by have := Nat.mul_le_mul (show r ≤ 64 by omega) (show c ≤ 64 by omega); rw [← Int.natCast_mul]; omega)
    have hm4 : m ≤ 4096 := by
      have := Nat.mul_le_mul (show r ≤ 64 by omega) (show c ≤ 64 by omega)
      omega
    generalize layW r c s xs = ys at *
    rw [hll] at hcn
    generalize sizN (max r c) s = N at *
    have HT := Lib.hid hT
    have HF := Lib.hid hF
    have HCN := Lib.hid hcn
    have HLL := Lib.hid hll
    have HA0 := Lib.hid hA
    have HLEN := Lib.hid (show m = r * c by omega)
    have HML := Lib.hid hml
    obtain ⟨S, a', c', hS, e, hcap, HA⟩ := hA.opened
    simp only [Value.slice.injEq] at e
    obtain ⟨rfl, he, rfl⟩ := e
    have k1 : ¬ (r : Int) < 1 := by omega
    have k2 : ¬ 64 < (r : Int) := by omega
    have k3 : ¬ (c : Int) < 1 := by omega
    have k4 : ¬ 64 < (c : Int) := by omega
    have k5 : ((m : Int) != (m : Int)) = false := by simp
    have k6 : ¬ (s : Int) < 1 := by omega
    have k7 : ¬ 8 < (s : Int) := by omega
    have k8 : ((r : Int) != (r : Int)) = false := by simp
    have k9 : ((c : Int) != (c : Int)) = false := by simp
    clear hT hF hcn hll hm' hm hlen hml he t1 t8 h1 h2
    have HG := G
    have c00 := G.cell (i := 0) rfl
    have c01 := G.cell (i := 1) rfl
    have c02 := G.cell (i := 2) rfl
    go_enter Try.func9, Try.ntmps9
    go_wp2_with fail
    generalize w.alloc (.cells #[.int .i64 (r : Int), .int .i64 (c : Int), .slice a m cap] 24) = W0 at *
    refine (hal _).mono ?_
    rintro e w1 ⟨rfl, b1⟩
    clear hal
    have B := below_both bx b1
    have G1 := HG.behind b1
    have c00 := G1.cell (i := 0) rfl
    have c01 := G1.cell (i := 1) rfl
    have c02 := G1.cell (i := 2) rfl
    go_wp2_with fail
    refine (HT.out _ (HA0.out.behind B)).mono ?_
    rintro e w2 ⟨v, rfl, hN2, b2⟩
    replace B := below_both B b2
    replace G1 := G1.behind b2
    have c00 := G1.cell (i := 0) rfl
    have c01 := G1.cell (i := 1) rfl
    have c02 := G1.cell (i := 2) rfl
    obtain ⟨Ty, ay, cy, hTy, ey, hcy, HY⟩ := hN2.arg.opened
    rw [HLL.out] at ey HY
    subst ey
    have HY0 := Lib.hid hN2.arg
    go_wp2_with fail
    refine (HF.out _ _ _ _ HY0.out rfl).mono ?_
    rintro e w3 ⟨ba, ca, rfl, hN3, b3⟩
    rw [← HLEN.out] at hN3
    obtain ⟨b4, G2⟩ := mbox w3 #[.int .i64 (r : Int), .int .i64 (c : Int), .slice ba (r * c) ca] 24 _ rfl
    have B23 := below_both b3 b4
    have hN4 := hN3.behind b4
    replace G1 := G1.behind B23
    replace B := below_both B B23
    rw [← HLEN.out] at G2 G1 B hN4 B23 ⊢
    have c00 := G1.cell (i := 0) rfl
    have c01 := G1.cell (i := 1) rfl
    have c02 := G1.cell (i := 2) rfl
    have d00 := G2.cell (i := 0) rfl
    have d01 := G2.cell (i := 1) rfl
    have d02 := G2.cell (i := 2) rfl
    have hne := G2.lt
    clear hN3 b3 b4
    go_wp2_with fail
    generalize w3.alloc (.cells #[.int .i64 (r : Int), .int .i64 (c : Int), .slice ba m ca] 24) = W4 at *
    refine (same_arg (HA0.out.behind B) hN4.arg (by have := HML.out; omega)).mono ?_
    rintro e w5 ⟨rfl, b5⟩
    replace B := below_both B b5
    replace G1 := G1.behind b5
    have BY := below_both B23 b5
    clear c00 c01 c02 d00 d01 d02
    go_wp2
    go_loopw [9, 10] (fun n i wr => ∃ q k : Nat, q ≤ N ∧ i = .int .i64 q ∧ n = .int .i64 k ∧ k ≤ q ∧ Hid (k = cnt ys q) ∧ wr = w5) (fun _ i _ => N - (intOf i).toNat)
    case atStart => exact ⟨0, 0, Nat.zero_le _, rfl, rfl, Nat.le_refl _, Lib.hid rfl, rfl⟩
    case round =>
      obtain ⟨q, k, hq, rfl, rfl, hkq, HK, rfl⟩ := hrel
      by_cases hlt : q < N
      · obtain ⟨oy, rfl, ky⟩ := HY.out wr BY q hlt
        have HS := Lib.hid (cnt_succ (xs := ys) (k := q) (by rw [HLL.out]; exact hlt))
        generalize lim ys q = v at *
        by_cases hv : v = 0
        · have d : ((v : Int) != 0) = false := by simp [hv]
          have HK2 : Hid (k = cnt ys (q + 1)) := Lib.hid (by rw [HS.out, if_pos hv, Nat.add_zero]; exact HK.out)
          clear hv HS
          go_wp2
          go_roundw
          case rel => exact ⟨q + 1, k, by omega, by simp, rfl, by omega, HK2, (by trivial)⟩
          case measure => simp [intOf]; omega
        · have d : ((v : Int) != 0) = true := bne_iff_ne.2 (by omega)
          have HK2 : Hid (k + 1 = cnt ys (q + 1)) := Lib.hid (by rw [HS.out, if_neg hv, HK.out])
          clear hv HS
          go_wp2
          go_roundw
          case rel => exact ⟨q + 1, k + 1, by omega, by simp, by simp, by omega, HK2, (by trivial)⟩
          case measure => simp [intOf]; omega
      · obtain rfl : q = N := by omega
        have HK3 : Hid (k = cnt xs m) := Lib.hid (by rw [HK.out, HCN.out, ← HML.out])
        have c02 := G1.cell (i := 2) rfl
        clear HK
        go_wp2
        obtain ⟨wo, rfl⟩ : ∃ wo : World, wo = wr := ⟨_, rfl⟩
        go_loopw [9, 11] (fun n i wi => ∃ (p : Nat) (z : Int), p ≤ m ∧ i = .int .i64 p ∧ n = .int .i64 z ∧ -1 ≤ z + p ∧ z ≤ 4096 + k ∧ Hid (z = (k : Int) - (cnt xs p : Int)) ∧ -4096 ≤ z ∧ wi = wo) (fun _ i _ => m - (intOf i).toNat)
        case atStart => exact ⟨0, k, Nat.zero_le _, rfl, rfl, by omega, by omega, Lib.hid (by rw [cnt_zero]; simp), by omega, rfl⟩
        case round =>
          obtain ⟨p, z, hp, rfl, rfl, hz1, hz2, HZ, hz3, rfl⟩ := hrel
          by_cases hpt : p < m
          · obtain ⟨oa, rfl, ka⟩ := HA.out wr B p (by have := HML.out; omega)
            have c02 := G1.cell (i := 2) rfl
            have HS := Lib.hid (cnt_succ (xs := xs) (k := p) (by have := HML.out; omega))
            generalize lim xs p = v at *
            have hcp : cnt xs p ≤ p := by unfold cnt; exact Nat.le_trans (List.countP_le_length) (by rw [List.length_take]; omega)
            by_cases hv : v = 0
            · have d : ((v : Int) != 0) = false := by simp [hv]
              have HK2 : Hid (z = (k : Int) - (cnt xs (p + 1) : Int)) := Lib.hid (by rw [HS.out, if_pos hv, Nat.add_zero]; exact HZ.out)
              clear hv HS
              go_wp2
              go_roundw
              case rel => exact ⟨p + 1, z, by omega, by simp, rfl, by omega, hz2, HK2, hz3, (by trivial)⟩
              case measure => simp [intOf]; omega
            · have d : ((v : Int) != 0) = true := bne_iff_ne.2 (by omega)
              have HK2 : Hid (z - 1 = (k : Int) - (cnt xs (p + 1) : Int)) := Lib.hid (by rw [HS.out, if_neg hv]; have := HZ.out; omega)
              have hz4 : -4096 ≤ z - 1 := by
                have hcp1 : cnt xs (p + 1) ≤ p + 1 := by unfold cnt; exact Nat.le_trans (List.countP_le_length) (by rw [List.length_take]; omega)
                have := HK2.out
                omega
              have hzw : IntKind.i64.wrap (z - 1) = z - 1 := IntWalk.i64_in _ (by omega)
              clear hv HS
              go_wp2
              go_roundw
              case rel => exact ⟨p + 1, z - 1, by omega, by simp, by simp, by have := HK2.out; have := HZ.out; omega, by omega, HK2, hz4, (by trivial)⟩
              case measure => simp [intOf]; omega
          · obtain rfl : p = m := by omega
            obtain rfl : z = 0 := by rw [HZ.out, HK3.out]; omega
            have c02 := G1.cell (i := 2) rfl
            go_wp2
            go_ret
            exact ⟨rfl, B⟩
  · have hway : R < 1 ∨ (¬ R < 1 ∧ 64 < R) ∨ (¬ R < 1 ∧ ¬ 64 < R ∧ C < 1) ∨ (¬ R < 1 ∧ ¬ 64 < R ∧ ¬ C < 1 ∧ 64 < C) ∨ (¬ R < 1 ∧ ¬ 64 < R ∧ ¬ C < 1 ∧ ¬ 64 < C ∧ (m : Int) ≠ R * C) ∨ (¬ R < 1 ∧ ¬ 64 < R ∧ ¬ C < 1 ∧ ¬ 64 < C ∧ (m : Int) = R * C ∧ t < 1) ∨ (¬ R < 1 ∧ ¬ 64 < R ∧ ¬ C < 1 ∧ ¬ 64 < C ∧ (m : Int) = R * C ∧ ¬ t < 1 ∧ 8 < t) := by
      by_cases q1 : R < 1
      · exact .inl q1
      by_cases q2 : 64 < R
      · exact .inr (.inl ⟨q1, q2⟩)
      by_cases q3 : C < 1
      · exact .inr (.inr (.inl ⟨q1, q2, q3⟩))
      by_cases q4 : 64 < C
      · exact .inr (.inr (.inr (.inl ⟨q1, q2, q3, q4⟩)))
      by_cases q5 : (m : Int) = R * C
      · have hm : mayM R C m = true := mayM_iff.2 ⟨by omega, by omega, by omega, by omega, q5⟩
        by_cases q6 : t < 1
        · exact .inr (.inr (.inr (.inr (.inr (.inl ⟨q1, q2, q3, q4, q5, q6⟩)))))
        · exact .inr (.inr (.inr (.inr (.inr (.inr ⟨q1, q2, q3, q4, q5, q6, by rcases Int.lt_or_le 8 t with h | h; exact h; exact absurd ⟨hm, by omega, h⟩ hok⟩)))))
      · exact .inr (.inr (.inr (.inr (.inl ⟨q1, q2, q3, q4, q5⟩))))
    have hT : ∀ w, Calls Try.prog 41 #[.agg #[.int .i64 R, .int .i64 C, .slice a m cap], .int .i64 t] w fun e W' => e = .returned (.tuple #[.slice none 0 0, .int .i64 11]) ∧ Below w.heap.size w W' := fun w => by
      cases hm : mayM R C m
      · exact mo_to_no hm
      · refine mo_to_tile hm (decide_eq_false (fun q => hok ⟨hm, q.2.2.2.2.1, q.2.2.2.2.2⟩)) h1 h2
    have hwq : ∀ (_ : ¬ R < 1 ∧ ¬ 64 < R ∧ ¬ C < 1 ∧ ¬ 64 < C), IntKind.i64.wrap (R * C) = R * C := by
      rintro ⟨q1, q2, q3, q4⟩
      have := Int.mul_le_mul (show R ≤ 64 by omega) (show C ≤ 64 by omega) (by omega) (by decide)
      have := Int.mul_nonneg (show 0 ≤ R by omega) (show 0 ≤ C by omega)
      exact IntWalk.i64_in _ (by omega)
    have HWQ := Lib.hid hwq
    clear hok h1 h2 hA hwq
    have HG := G
    have c00 := G.cell (i := 0) rfl
    have c01 := G.cell (i := 1) rfl
    have c02 := G.cell (i := 2) rfl
    have fin : ∀ (_ : R < 1 ∨ True), True := fun _ => trivial
    clear fin
    rcases hway with q | ⟨q1, q2⟩ | ⟨q1, q2, q3⟩ | ⟨q1, q2, q3, q4⟩ | ⟨q1, q2, q3, q4, q5⟩ | ⟨q1, q2, q3, q4, q5, q6⟩ | ⟨q1, q2, q3, q4, q5, q6, q7⟩
    rotate_left 4
    · have q8 := HWQ.out ⟨q1, q2, q3, q4⟩
      have q9 : ((m : Int) != R * C) = true := bne_iff_ne.2 q5
      clear q5
      go_enter Try.func9, Try.ntmps9
      go_wp2_with fail
      generalize w.alloc (.cells #[.int .i64 R, .int .i64 C, .slice a m cap] 24) = W0 at *
      refine (hal _).mono ?_
      rintro e w1 ⟨rfl, b1⟩
      clear hal
      have B := below_both bx b1
      have G1 := HG.behind b1
      have c00 := G1.cell (i := 0) rfl
      have c01 := G1.cell (i := 1) rfl
      have c02 := G1.cell (i := 2) rfl
      go_wp2_with fail
      refine (hT _).mono ?_
      rintro e w2 ⟨rfl, b2⟩
      have B := below_both B b2
      have G1 := G1.behind b2
      have c00 := G1.cell (i := 0) rfl
      have c01 := G1.cell (i := 1) rfl
      have c02 := G1.cell (i := 2) rfl
      go_wp2
      go_ret
      exact ⟨rfl, B⟩
    · have q8 := HWQ.out ⟨q1, q2, q3, q4⟩
      have q9 : ((m : Int) != R * C) = false := by simp [q5]
      clear q5
      go_enter Try.func9, Try.ntmps9
      go_wp2_with fail
      generalize w.alloc (.cells #[.int .i64 R, .int .i64 C, .slice a m cap] 24) = W0 at *
      refine (hal _).mono ?_
      rintro e w1 ⟨rfl, b1⟩
      clear hal
      have B := below_both bx b1
      have G1 := HG.behind b1
      have c00 := G1.cell (i := 0) rfl
      have c01 := G1.cell (i := 1) rfl
      have c02 := G1.cell (i := 2) rfl
      go_wp2_with fail
      refine (hT _).mono ?_
      rintro e w2 ⟨rfl, b2⟩
      have B := below_both B b2
      have G1 := G1.behind b2
      have c00 := G1.cell (i := 0) rfl
      have c01 := G1.cell (i := 1) rfl
      have c02 := G1.cell (i := 2) rfl
      go_wp2
      go_ret
      exact ⟨rfl, B⟩
    · have q8 := HWQ.out ⟨q1, q2, q3, q4⟩
      have q9 : ((m : Int) != R * C) = false := by simp [q5]
      clear q5
      go_enter Try.func9, Try.ntmps9
      go_wp2_with fail
      generalize w.alloc (.cells #[.int .i64 R, .int .i64 C, .slice a m cap] 24) = W0 at *
      refine (hal _).mono ?_
      rintro e w1 ⟨rfl, b1⟩
      clear hal
      have B := below_both bx b1
      have G1 := HG.behind b1
      have c00 := G1.cell (i := 0) rfl
      have c01 := G1.cell (i := 1) rfl
      have c02 := G1.cell (i := 2) rfl
      go_wp2_with fail
      refine (hT _).mono ?_
      rintro e w2 ⟨rfl, b2⟩
      have B := below_both B b2
      have G1 := G1.behind b2
      have c00 := G1.cell (i := 0) rfl
      have c01 := G1.cell (i := 1) rfl
      have c02 := G1.cell (i := 2) rfl
      go_wp2
      go_ret
      exact ⟨rfl, B⟩
    all_goals
      go_enter Try.func9, Try.ntmps9
      go_wp2_with fail
      generalize w.alloc (.cells #[.int .i64 R, .int .i64 C, .slice a m cap] 24) = W0 at *
      refine (hal _).mono ?_
      rintro e w1 ⟨rfl, b1⟩
      clear hal
      have B := below_both bx b1
      have G1 := HG.behind b1
      have c00 := G1.cell (i := 0) rfl
      have c01 := G1.cell (i := 1) rfl
      have c02 := G1.cell (i := 2) rfl
      go_wp2_with fail
      refine (hT _).mono ?_
      rintro e w2 ⟨rfl, b2⟩
      have B := below_both B b2
      have G1 := G1.behind b2
      have c00 := G1.cell (i := 0) rfl
      have c01 := G1.cell (i := 1) rfl
      have c02 := G1.cell (i := 2) rfl
      go_wp2
      go_ret
      exact ⟨rfl, B⟩
end Go.Proofs.Ytaefalmabphadaa
