/- view: places, Places, Copy. -/
import Derived.Test.YtgppbimbampenaaVwPart
import Derived.Test.YtgppbimbampenaaShMake
namespace Go.Proofs.Ytgppbimbampenaa
open Go.RowKit Go.Shelf
/-- numbers of places, row by row -/
def preZ (C : Nat) (g : Nat → Nat → Int) (n : Nat) : List Int := (List.range n).map fun k => g (k / C) (k % C)
theorem preZ_length (C : Nat) (g : Nat → Nat → Int) (n : Nat) : (preZ C g n).length = n := by simp [preZ]
theorem preZ_snoc {C i j : Nat} (g : Nat → Nat → Int) (hj : j < C) : preZ C g (i * C + j + 1) = preZ C g (i * C + j) ++ [g i j] := by
  have hC : 0 < C := by omega
  have e1 : (i * C + j) / C = i := by rw [Nat.mul_comm, Nat.mul_add_div hC, Nat.div_eq_of_lt hj, Nat.add_zero]
  have e2 : (i * C + j) % C = j := by rw [Nat.mul_comm, Nat.mul_add_mod, Nat.mod_eq_of_lt hj]
  unfold preZ
  rw [List.range_succ, List.map_append, List.map_singleton, e1, e2]
theorem preZ_at {C : Nat} (g : Nat → Nat → Int) {n k : Nat} (h : k < n) : zat (preZ C g n) k = g (k / C) (k % C) := by
  unfold zat preZ
  rw [List.getElem?_map, List.getElem?_range h, Option.map_some, Option.getD_some]
def plv (S O : Int) (i j : Nat) : Int := O + (i : Int) * S + (j : Int)
set_option maxRecDepth 100000 in
set_option maxHeartbeats 8000000 in
theorem view_places {R C : Nat} {S O : Int} {w : World} (hR : R ≤ 64) (hC : C ≤ 64) (s0 : 0 ≤ S) (s1 : S ≤ 1048576) (o0 : 0 ≤ O) (o1 : O ≤ 1048576) :
    Calls Try.prog 62 #[.agg #[.int .i64 (R : Int), .int .i64 (C : Int), .int .i64 S, .int .i64 O]] w fun e W' => ∃ v, e = .returned v ∧ NewK .i64 w.heap.size W' v (preZ C (plv S O) (R * C)) ∧ Below w.heap.size w W' := by
  obtain ⟨bx, G⟩ := mbox w #[.int .i64 (R : Int), .int .i64 (C : Int), .int .i64 S, .int .i64 O] 23 _ rfl
  have hw0 := G.lt
  have hrc : R * C ≤ 4096 := by have := Nat.mul_le_mul hR hC; omega
  have hwp : IntKind.i64.wrap ((R : Int) * (C : Int)) = ((R * C : Nat) : Int) := by rw [Int.natCast_mul]; exact IntWalk.i64_in _ (by omega)
  have hmk := make0_int (R * C) (by omega)
  have HOWN := Lib.hid (own0_int (R * C) (by omega))
  have hnum := fun (i j : Nat) (hi : i < R) (hj : j < C) (w : World) => view_number (R := (R : Int)) (C := (C : Int)) (S := S) (O := O) (i := (i : Int)) (j := (j : Int)) (w := w) (by omega) (by omega) s0 s1 o0 o1 (by omega) (by omega)
  have HNUM := Lib.hid hnum
  have HG := Lib.hid (show ∀ i j : Nat, O + (i : Int) * S + (j : Int) = plv S O i j from fun _ _ => rfl)
  have HN := Lib.hid (show R * C = R * C from rfl)
  have c0 := G.cell (i := 0) rfl
  have c1 := G.cell (i := 1) rfl
  have c2 := G.cell (i := 2) rfl
  have c3 := G.cell (i := 3) rfl
  clear hnum s0 s1 o0 o1
  generalize plv S O = g at *
  generalize hN : R * C = N at HN hmk HOWN hwp hrc ⊢
  replace HN := Lib.hid hN
  clear hN
  go_enter Try.func62, Try.ntmps62
  go_wp2_with fail
  have hm1 := hmk (w.alloc (.cells #[.int .i64 (R : Int), .int .i64 (C : Int), .int .i64 S, .int .i64 O] 23))
  have hown1 := HOWN.out (w.alloc (.cells #[.int .i64 (R : Int), .int .i64 (C : Int), .int .i64 S, .int .i64 O] 23))
  have hB1 := bel_new (w.alloc (.cells #[.int .i64 (R : Int), .int .i64 (C : Int), .int .i64 S, .int .i64 O] 23)) (.cells (madeCells #[.int .i64 0] N) 3)
  have c0' := (G.behind hB1).cell (i := 0) rfl
  have HSZ := Lib.hid (World.size_alloc w (.cells #[.int .i64 (R : Int), .int .i64 (C : Int), .int .i64 S, .int .i64 O] 23))
  generalize w.alloc (.cells #[.int .i64 (R : Int), .int .i64 (C : Int), .int .i64 S, .int .i64 O] 23) = W0 at *
  clear hmk
  go_wp2
  clear hm1
  generalize W0.alloc (.cells (madeCells #[.int .i64 0] N) 3) = W1 at *
  go_loopw [3, 14] (fun d i wr => ∃ q : Nat, q ≤ R ∧ i = .int .i64 q ∧ OwnK .i64 3 W0.heap.size wr d (preZ C g (q * C)) ∧ Below W0.heap.size W0 wr) (fun _ i _ => R - (intOf i).toNat)
  case atStart => exact ⟨0, Nat.zero_le _, rfl, by rw [Nat.zero_mul, ← HSZ.out]; exact hown1, hB1⟩
  case round =>
    obtain ⟨q, hq, rfl, hown, hB⟩ := hrel
    by_cases hlt : q < R
    · have c1 := (G.behind hB).cell (i := 1) rfl
      go_wp2
      have hown0 : OwnK .i64 3 W0.heap.size wr u3 (preZ C g (q * C + 0)) := hown
      have hqc : q * C + C ≤ N := by
        have := Nat.mul_le_mul_right C (show q + 1 ≤ R from hlt)
        rw [Nat.add_mul, Nat.one_mul, HN.out] at this
        omega
      clear hown
      obtain ⟨wo, rfl⟩ : ∃ wo : World, wo = wr := ⟨_, rfl⟩
      go_loopw [3, 19] (fun d j wi => ∃ r : Nat, r ≤ C ∧ j = .int .i64 r ∧ OwnK .i64 3 W0.heap.size wi d (preZ C g (q * C + r)) ∧ Below W0.heap.size W0 wi) (fun _ j _ => C - (intOf j).toNat)
      case atStart => exact ⟨0, Nat.zero_le _, rfl, hown0, hB⟩
      case round =>
        obtain ⟨r, hr, rfl, hownr, hBr⟩ := hrel
        by_cases hrt : r < C
        · have hix := HNUM.out q r hlt hrt wr
          rw [HG.out q r] at hix
          have HS := Lib.hid (preZ_snoc (C := C) (i := q) g hrt)
          have hlen : (preZ C g (q * C + r)).length + 1 ≤ 17592186044416 := by rw [preZ_length]; omega
          have c0 := (G.behind hBr).cell (i := 0) rfl
          have c1 := (G.behind hBr).cell (i := 1) rfl
          have c2 := (G.behind hBr).cell (i := 2) rfl
          have c3 := (G.behind hBr).cell (i := 3) rfl
          go_wp2_with fail
          refine hix.mono ?_
          rintro e w2 ⟨rfl, b2⟩
          clear hix
          replace hBr := below_both hBr b2
          have hown2 := hownr.below b2
          go_wp2_with (at_builtin; refine app_int rfl _ _ rfl rfl rfl (cell_new1 _ _ _) (hown2.alloc _) hlen (by have := hBr.size; simp; omega) ?_; intro v' w3 hown3 hb3)
          go_roundw
          case rel => exact ⟨r + 1, by omega, by simp, by rw [← Nat.add_assoc, HS.out]; exact hown3, (hBr.alloc hBr.size _).trans hb3⟩
          case measure => simp [intOf]; omega
        · obtain rfl : r = C := by omega
          clear hrt
          go_wp2
          go_roundw
          case rel => exact ⟨q + 1, by omega, by simp, by rw [Nat.add_mul, Nat.one_mul]; exact hownr, hBr⟩
          case measure => simp [intOf]; omega
    · obtain rfl : q = R := by omega
      clear hlt
      rw [HN.out] at hown
      have hnew := hown.new (Nat.lt_of_le_of_lt (Nat.zero_le _) (Nat.lt_of_lt_of_le hw0 hB.size))
      go_wp2
      go_ret
      exact ⟨_, rfl, hnew.mono (Nat.le_of_lt hw0), below_both bx hB⟩
/-- the matrix that Copy tells -/
def cpyW (xs : List Nat) (R C : Nat) (S O : Int) : List Nat := tab R C fun i j => lim xs (plv S O i j).toNat
theorem plv_in {R C m : Nat} {S O : Int} (h : mayW R C S O m = true) {i j : Nat} (hi : i < R) (hj : j < C) : 0 ≤ plv S O i j ∧ plv S O i j < m := by
  have hb := mayW_iff.1 h
  have e2 : ((R : Int) - 1) * S = (i : Int) * S + ((R : Int) - 1 - i) * S := by rw [← Int.add_mul]; congr 1; omega
  have n1 : 0 ≤ ((R : Int) - 1 - i) * S := Int.mul_nonneg (by omega) (by omega)
  have n2 : 0 ≤ (i : Int) * S := Int.mul_nonneg (by omega) (by omega)
  have := hb.2.2.2.2.2.2.2.2
  unfold lastW at this
  unfold plv
  omega
end Go.Proofs.Ytgppbimbampenaa
