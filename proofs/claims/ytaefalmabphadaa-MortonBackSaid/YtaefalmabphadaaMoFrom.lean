/- morton.From. -/
import Derived.Test.YtaefalmabphadaaMoLay
namespace Go.Proofs.Ytaefalmabphadaa
open Go.RowKit Go.Shelf
theorem sized_of' {a : Option Addr} {m cap : Nat} {xs : List Nat} {w : World} (hA : Arg w (.slice a m cap) xs) : m = xs.length := by
  obtain ⟨a', c', e⟩ := hA.slice
  simp only [Value.slice.injEq] at e
  omega
set_option maxHeartbeats 2000000 in
theorem mo_from_no {a : Option Addr} {m cap : Nat} {R C t : Int} {w : World} (h : sideOK R C t = false) (h1 : -9223372036854775808 ≤ t) (h2 : t ≤ 9223372036854775807) :
    Calls Try.prog 42 #[.slice a m cap, .int .i64 R, .int .i64 C, .int .i64 t] w fun e W' => e = .returned (.tuple #[.agg #[.int .i64 0, .int .i64 0, .slice none 0 0], .int .i64 11]) ∧ Below w.heap.size w W' := by
  have hz := fun w => mo_size_no (w := w) h h1 h2
  clear h h1 h2
  obtain ⟨bx, G⟩ := mbox w #[.int .i64 0, .int .i64 0, .slice none 0 0] 24 _ rfl
  go_enter Try.func42, Try.ntmps42
  go_wp2_with fail
  generalize w.alloc (.cells #[.int .i64 0, .int .i64 0, .slice none 0 0] 24) = W0 at *
  refine (hz _).mono ?_
  rintro e w1 ⟨rfl, rfl⟩
  clear hz
  have g0 := G.cell (i := 0) rfl
  have g1 := G.cell (i := 1) rfl
  have g2 := G.cell (i := 2) rfl
  have f0 := G.f 0
  have f1 := G.f 1
  have f2 := G.f 2
  go_wp2
  exact bodyPost_ret (v := .tuple #[.agg #[.int .i64 0, .int .i64 0, .slice none 0 0], .int .i64 11]) (by simp [results, Try.results42, go_sem, g0, g1, g2]) rfl
    ⟨rfl, bx.put3 (Nat.le_refl _) _ _ _⟩
set_option maxHeartbeats 2000000 in
theorem mo_from_long {a : Option Addr} {m cap R C t : Nat} {w : World} (hR : 1 ≤ R) (hR' : R ≤ 64) (hC : 1 ≤ C) (hC' : C ≤ 64) (ht : 1 ≤ t) (h8 : t ≤ 8) (hm : m ≠ sizN (max R C) t) :
    Calls Try.prog 42 #[.slice a m cap, .int .i64 (R : Int), .int .i64 (C : Int), .int .i64 (t : Int)] w fun e W' => e = .returned (.tuple #[.agg #[.int .i64 0, .int .i64 0, .slice none 0 0], .int .i64 5]) ∧ Below w.heap.size w W' := by
  have hz := fun w => mo_size (w := w) hR hR' hC hC' ht h8
  generalize sizN (max R C) t = N at *
  have hb : ((m : Int) != (N : Int)) = true := bne_iff_ne.2 (by omega)
  clear hm
  obtain ⟨bx, G⟩ := mbox w #[.int .i64 0, .int .i64 0, .slice none 0 0] 24 _ rfl
  go_enter Try.func42, Try.ntmps42
  go_wp2_with fail
  generalize w.alloc (.cells #[.int .i64 0, .int .i64 0, .slice none 0 0] 24) = W0 at *
  refine (hz _).mono ?_
  rintro e w1 ⟨rfl, rfl⟩
  clear hz
  have g0 := G.cell (i := 0) rfl
  have g1 := G.cell (i := 1) rfl
  have g2 := G.cell (i := 2) rfl
  have f0 := G.f 0
  have f1 := G.f 1
  have f2 := G.f 2
  go_wp2
  exact bodyPost_ret (v := .tuple #[.agg #[.int .i64 0, .int .i64 0, .slice none 0 0], .int .i64 5]) (by simp [results, Try.results42, go_sem, g0, g1, g2]) rfl
    ⟨rfl, bx.put3 (Nat.le_refl _) _ _ _⟩
set_option maxRecDepth 100000 in
set_option maxHeartbeats 4000000 in
theorem mo_from {a : Option Addr} {m cap R C t : Nat} {xs : List Nat} {w : World} (hA : Arg w (.slice a m cap) xs) (hR : 1 ≤ R) (hR' : R ≤ 64) (hC : 1 ≤ C) (hC' : C ≤ 64) (ht : 1 ≤ t) (h8 : t ≤ 8) (hm : m = sizN (max R C) t) :
    Calls Try.prog 42 #[.slice a m cap, .int .i64 (R : Int), .int .i64 (C : Int), .int .i64 (t : Int)] w fun e W' => ∃ b c, e = .returned (.tuple #[.agg #[.int .i64 (R : Int), .int .i64 (C : Int), .slice b (R * C) c], .int .i64 0]) ∧ New w.heap.size W' (.slice b (R * C) c) (tab R C fun i j => lim xs (plc i j t)) ∧ Below w.heap.size w W' := by
  have hz := fun w => mo_size (w := w) hR hR' hC hC' ht h8
  rw [← hm] at hz
  have hml := sized_of' hA
  have hrc : R * C ≤ 4096 := by have := Nat.mul_le_mul hR' hC'; omega
  have hwp : IntKind.i64.wrap ((R : Int) * (C : Int)) = ((R * C : Nat) : Int) := by rw [Int.natCast_mul]; exact IntWalk.i64_in _ (by omega)
  have hmk := make0_u64 (R * C) (by omega)
  have hpl : ∀ i j, i < R → j < C → plc i j t < m := fun i j hi hj => by rw [hm]; exact plc_lt (by omega) ht (by omega) (by omega)
  have HOWN := Lib.hid (own0_u64 (R * C) (by omega))
  have HPL := Lib.hid hpl
  obtain ⟨T, a', c', hT, e, hcap, HA⟩ := hA.opened
  simp only [Value.slice.injEq] at e
  obtain ⟨rfl, rfl, rfl⟩ := e
  clear hm hpl hA hml
  generalize xs.length = m at *
  obtain ⟨bx, G⟩ := mbox w #[.int .i64 0, .int .i64 0, .slice none 0 0] 24 _ rfl
  have hw0 : w.heap.size < (w.alloc (.cells #[.int .i64 0, .int .i64 0, .slice none 0 0] 24)).heap.size := by rw [World.size_alloc]; omega
  obtain ⟨g, hg⟩ : ∃ g : Nat → Nat → Nat, g = fun i j => lim xs (plc i j t) := ⟨_, rfl⟩
  rw [← hg]
  have HGF := Lib.hid hg
  clear hg
  generalize hN : R * C = N at *
  have HN := Lib.hid hN
  clear hN
  go_enter Try.func42, Try.ntmps42
  go_wp2_with fail
  generalize w.alloc (.cells #[.int .i64 0, .int .i64 0, .slice none 0 0] 24) = W0 at *
  have hm1 := hmk W0
  clear hmk
  refine (hz _).mono ?_
  rintro e w1 ⟨rfl, rfl⟩
  clear hz
  go_wp2
  have hown1 := HOWN.out W0
  clear hm1 HOWN
  have hB1 : Below W0.heap.size W0 (W0.alloc (.cells (madeCells #[.int .u64 0] N) 26)) := (Below.refl _ W0).alloc (Nat.le_refl _) _
  generalize W0.alloc (.cells (madeCells #[.int .u64 0] N) 26) = W1 at *
  go_loopw [12, 38] (fun d i wr => ∃ q : Nat, q ≤ R ∧ i = .int .i64 q ∧ OwnK .u64 26 W0.heap.size wr d (zn (pre C g (q * C))) ∧ Below W0.heap.size W0 wr) (fun _ i _ => R - (intOf i).toNat)
  case atStart => exact ⟨0, Nat.zero_le _, rfl, by rw [Nat.zero_mul, pre_zero]; exact hown1, hB1⟩
  case round =>
    obtain ⟨q, hq, rfl, hown, hB⟩ := hrel
    by_cases hlt : q < R
    · go_wp2
      have hown0 : OwnK .u64 26 W0.heap.size wr u12 (zn (pre C g (q * C + 0))) := hown
      have hqc : q * C + C ≤ N := by
        have := Nat.mul_le_mul_right C (show q + 1 ≤ R from hlt)
        rw [Nat.add_mul, Nat.one_mul, HN.out] at this
        omega
      clear hown
      obtain ⟨wo, rfl⟩ : ∃ wo : World, wo = wr := ⟨_, rfl⟩
      go_loopw [12, 42] (fun d j wi => ∃ r : Nat, r ≤ C ∧ j = .int .i64 r ∧ OwnK .u64 26 W0.heap.size wi d (zn (pre C g (q * C + r))) ∧ Below W0.heap.size W0 wi) (fun _ j _ => C - (intOf j).toNat)
      case atStart => exact ⟨0, Nat.zero_le _, rfl, hown0, hB⟩
      case round =>
        obtain ⟨r, hr, rfl, hownr, hBr⟩ := hrel
        by_cases hrt : r < C
        · have hix := mo_index (i := q) (j := r) (t := t) (w := wr) (by omega) (by omega) ht h8
          have HS := Lib.hid (pre_snoc (C := C) (i := q) g hrt)
          have hgv : Hid (g q r = lim xs (plc q r t)) := Lib.hid (by rw [HGF.out])
          have hlen : (zn (pre C g (q * C + r))).length + 1 ≤ 17592186044416 := by rw [zn_length, pre_length]; omega
          have hpm := HPL.out q r hlt hrt
          generalize plc q r t = pl at *
          go_wp2_with fail
          refine hix.mono ?_
          rintro e w2 ⟨rfl, n2, rfl⟩
          clear hix
          replace hBr := below_both hBr (below_drewN _ _ n2)
          have hown2 := hownr.below (below_drewN _ _ n2)
          generalize wr.drewN n2 = w2 at *
          obtain ⟨oa, rfl, ka⟩ := HA.out w2 (below_both bx hBr) pl hpm
          rw [← hgv.out] at ka
          go_wp2_with (at_builtin; refine app_u64 rfl _ _ rfl rfl rfl (cell_new1 _ _ _) (hown2.alloc _) hlen (by have := hBr.size; simp; omega) ?_; intro v' w3 hown3 hb3)
          go_roundw
          case rel => exact ⟨r + 1, by omega, by simp, by rw [← Nat.add_assoc, HS.out, zn_snoc]; exact hown3, (hBr.alloc hBr.size _).trans hb3⟩
          case measure => simp [intOf]; omega
        · obtain rfl : r = C := by omega
          clear hrt
          go_wp2
          go_roundw
          case rel => exact ⟨q + 1, by omega, by simp, by rw [Nat.add_mul, Nat.one_mul]; exact hownr, hBr⟩
          case measure => simp [intOf]; omega
    · obtain rfl : q = R := by omega
      clear hlt
      rw [HN.out] at hown
      have hnew := new_zn.2 (hown.new (Nat.lt_of_le_of_lt (Nat.zero_le _) (Nat.lt_of_lt_of_le hw0 hB.size)))
      have hN2 : (zn (pre C g N)).length = N := by rw [zn_length, pre_length]
      obtain ⟨a8, c8, e8⟩ := hown.len
      rw [hN2] at e8
      have G1 := G.below hB hw0
      have g0 := G1.cell (i := 0) rfl
      have g1 := G1.cell (i := 1) rfl
      have g2 := G1.cell (i := 2) rfl
      have f0 := G1.f 0
      have f1 := G1.f 1
      have f2 := G1.f 2
      subst e8
      have HNEW := Lib.hid hnew
      clear hnew hN2 hown hown1
      go_wp2
      exact bodyPost_ret (v := .tuple #[.agg #[.int .i64 (q : Int), .int .i64 (C : Int), .slice a8 N c8], .int .i64 0]) (by simp [results, Try.results42, go_sem, g0, g1, g2]) rfl
        ⟨a8, c8, rfl, ((by unfold tab; rw [HN.out]; exact HNEW.out : New W0.heap.size wr (.slice a8 N c8) (tab q C g)).put3 hw0 _ _ _).lower (Nat.le_of_lt hw0), (below_both bx hB).put3 (Nat.le_refl _) _ _ _⟩
end Go.Proofs.Ytaefalmabphadaa
