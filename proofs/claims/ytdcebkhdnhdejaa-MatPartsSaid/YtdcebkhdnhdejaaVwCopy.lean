/- view: places, Places, Copy. -/
import Derived.Test.YtdcebkhdnhdejaaVwPart
import Derived.Test.YtdcebkhdnhdejaaShMake
namespace Go.Proofs.Ytdcebkhdnhdejaa
open Go.RowKit Go.Shelf
/-- numbers of places, row by row -/
def preZ (C : Nat) (g : Nat → Nat → Int) (n : Nat) : List Int := (List.range n).map fun k => g (k / C) (k % C)
theorem preZ_length (C : Nat) (g : Nat → Nat → Int) (n : Nat) : (preZ C g n).length = n := by simp [preZ]
theorem preZ_snoc {C i j : Nat} (g : Nat → Nat → Int) (hj : j < C) : preZ C g (i * C + j + 1) = preZ C g (i * C + j) ++ [g i j] := by
  have hC : 0 < C := by omega
  have e1 : (i * C + j) / C = i := by rw [Nat.mul_comm, Nat.mul_add_div hC, Nat.div_eq_of_lt hj, Nat.add_zero]
  have e2 : (i * C + j) % C = j := by rw [Nat.mul_comm, Nat.mul_add_mod, Nat.mod_eq_of_lt hj]
  unfold preZ
  rw [List.range_succ, List.map_append, List.map_singleton, e1, e2]
theorem preZ_at {C : Nat} (g : Nat → Nat → Int) {n k : Nat} (h : k < n) : zat (preZ C g n) k = g (k / C) (k % C) := by
  unfold zat preZ
  rw [List.getElem?_map, List.getElem?_range h, Option.map_some, Option.getD_some]
def plv (S O : Int) (i j : Nat) : Int := O + (i : Int) * S + (j : Int)
set_option maxRecDepth 100000 in
set_option maxHeartbeats 8000000 in
theorem view_places {R C : Nat} {S O : Int} {w : World} (hR : R ≤ 64) (hC : C ≤ 64) (s0 : 0 ≤ S) (s1 : S ≤ 1048576) (o0 : 0 ≤ O) (o1 : O ≤ 1048576) :
    Calls Try.prog 123 #[.agg #[.int .i64 (R : Int), .int .i64 (C : Int), .int .i64 S, .int .i64 O]] w fun e W' => ∃ v, e = .returned v ∧ NewK .i64 w.heap.size W' v (preZ C (plv S O) (R * C)) ∧ Below w.heap.size w W' := by
  obtain ⟨bx, G⟩ := mbox w #[.int .i64 (R : Int), .int .i64 (C : Int), .int .i64 S, .int .i64 O] 95 _ rfl
  have hw0 := G.lt
  have hrc : R * C ≤ 4096 := by have := Nat.mul_le_mul hR hC; omega
  have hwp : IntKind.i64.wrap ((R : Int) * (C : Int)) = ((R * C : Nat) : Int) := by rw [Int.natCast_mul]; exact IntWalk.i64_in _ (by omega)
  have hmk := make0_int (R * C) (by omega)
  have HOWN := Lib.hid (own0_int (R * C) (by omega))
  have hnum := fun (i j : Nat) (hi : i < R) (hj : j < C) (w : World) => view_number (R := (R : Int)) (C := (C : Int)) (S := S) (O := O) (i := (i : Int)) (j := (j : Int)) (w := w) (by omega) (by omega) s0 s1 o0 o1 (by omega) (by omega)
  have HNUM := Lib.hid hnum
  have HG := Lib.hid (show ∀ i j : Nat, O + (i : Int) * S + (j : Int) = plv S O i j from fun _ _ => rfl)
  have HN := Lib.hid (show R * C = R * C from rfl)
  have c0 := G.cell (i := 0) rfl
  have c1 := G.cell (i := 1) rfl
  have c2 := G.cell (i := 2) rfl
  have c3 := G.cell (i := 3) rfl
  clear hnum s0 s1 o0 o1
  generalize plv S O = g at *
  generalize hN : R * C = N at HN hmk HOWN hwp hrc ⊢
  replace HN := Lib.hid hN
  clear hN
  go_enter Try.func123, Try.ntmps123
  go_wp2_with fail
  have hm1 := hmk (w.alloc (.cells #[.int .i64 (R : Int), .int .i64 (C : Int), .int .i64 S, .int .i64 O] 95))
  have hown1 := HOWN.out (w.alloc (.cells #[.int .i64 (R : Int), .int .i64 (C : Int), .int .i64 S, .int .i64 O] 95))
  have hB1 := bel_new (w.alloc (.cells #[.int .i64 (R : Int), .int .i64 (C : Int), .int .i64 S, .int .i64 O] 95)) (.cells (madeCells #[.int .i64 0] N) 3)
  have c0' := (G.behind hB1).cell (i := 0) rfl
  have HSZ := Lib.hid (World.size_alloc w (.cells #[.int .i64 (R : Int), .int .i64 (C : Int), .int .i64 S, .int .i64 O] 95))
  generalize w.alloc (.cells #[.int .i64 (R : Int), .int .i64 (C : Int), .int .i64 S, .int .i64 O] 95) = W0 at *
  clear hmk
  go_wp2
  clear hm1
  generalize W0.alloc (.cells (madeCells #[.int .i64 0] N) 3) = W1 at *
  go_loopw [3, 14] (fun d i wr => ∃ q : Nat, q ≤ R ∧ i = .int .i64 q ∧ OwnK .i64 3 W0.heap.size wr d (preZ C g (q * C)) ∧ Below W0.heap.size W0 wr) (fun _ i _ => R - (intOf i).toNat)
  case atStart => exact ⟨0, Nat.zero_le _, rfl, by rw [Nat.zero_mul, ← HSZ.out]; exact hown1, hB1⟩
  case round =>
    obtain ⟨q, hq, rfl, hown, hB⟩ := hrel
    by_cases hlt : q < R
    · have c1 := (G.behind hB).cell (i := 1) rfl
      go_wp2
      have hown0 : OwnK .i64 3 W0.heap.size wr u3 (preZ C g (q * C + 0)) := hown
      have hqc : q * C + C ≤ N := by
        have := Nat.mul_le_mul_right C (show q + 1 ≤ R from hlt)
        rw [Nat.add_mul, Nat.one_mul, HN.out] at this
        omega
      clear hown
      obtain ⟨wo, rfl⟩ : ∃ wo : World, wo = wr := ⟨_, rfl⟩
      go_loopw [3, 19] (fun d j wi => ∃ r : Nat, r ≤ C ∧ j = .int .i64 r ∧ OwnK .i64 3 W0.heap.size wi d (preZ C g (q * C + r)) ∧ Below W0.heap.size W0 wi) (fun _ j _ => C - (intOf j).toNat)
      case atStart => exact ⟨0, Nat.zero_le _, rfl, hown0, hB⟩
      case round =>
        obtain ⟨r, hr, rfl, hownr, hBr⟩ := hrel
        by_cases hrt : r < C
        · have hix := HNUM.out q r hlt hrt wr
          rw [HG.out q r] at hix
          have HS := Lib.hid (preZ_snoc (C := C) (i := q) g hrt)
          have hlen : (preZ C g (q * C + r)).length + 1 ≤ 17592186044416 := by rw [preZ_length]; omega
          have c0 := (G.behind hBr).cell (i := 0) rfl
          have c1 := (G.behind hBr).cell (i := 1) rfl
          have c2 := (G.behind hBr).cell (i := 2) rfl
          have c3 := (G.behind hBr).cell (i := 3) rfl
          go_wp2_with fail
          refine hix.mono ?_
          rintro e w2 ⟨rfl, b2⟩
          clear hix
          replace hBr := below_both hBr b2
          have hown2 := hownr.below b2
          go_wp2_with (at_builtin; refine app_int rfl _ _ rfl rfl rfl (cell_new1 _ _ _) (hown2.alloc _) hlen (by have := hBr.size; simp; omega) ?_; intro v' w3 hown3 hb3)
          go_roundw
          case rel => exact ⟨r + 1, by omega, by simp, by rw [← Nat.add_assoc, HS.out]; exact hown3, (hBr.alloc hBr.size _).trans hb3⟩
          case measure => simp [intOf]; omega
        · obtain rfl : r = C := by omega
          clear hrt
          go_wp2
          go_roundw
          case rel => exact ⟨q + 1, by omega, by simp, by rw [Nat.add_mul, Nat.one_mul]; exact hownr, hBr⟩
          case measure => simp [intOf]; omega
    · obtain rfl : q = R := by omega
      clear hlt
      rw [HN.out] at hown
      have hnew := hown.new (Nat.lt_of_le_of_lt (Nat.zero_le _) (Nat.lt_of_lt_of_le hw0 hB.size))
      go_wp2
      go_ret
      exact ⟨_, rfl, hnew.mono (Nat.le_of_lt hw0), below_both bx hB⟩
/-- the matrix that Copy tells -/
def cpyW (xs : List Nat) (R C : Nat) (S O : Int) : List Nat := tab R C fun i j => lim xs (plv S O i j).toNat
theorem plv_in {R C m : Nat} {S O : Int} (h : mayW R C S O m = true) {i j : Nat} (hi : i < R) (hj : j < C) : 0 ≤ plv S O i j ∧ plv S O i j < m := by
  have hb := mayW_iff.1 h
  have e2 : ((R : Int) - 1) * S = (i : Int) * S + ((R : Int) - 1 - i) * S := by rw [← Int.add_mul]; congr 1; omega
  have n1 : 0 ≤ ((R : Int) - 1 - i) * S := Int.mul_nonneg (by omega) (by omega)
  have n2 : 0 ≤ (i : Int) * S := Int.mul_nonneg (by omega) (by omega)
  have := hb.2.2.2.2.2.2.2.2
  unfold lastW at this
  unfold plv
  omega
set_option maxRecDepth 100000 in
set_option maxHeartbeats 8000000 in
theorem view_copy {a : Option Addr} {m cap R C : Nat} {S O : Int} {xs : List Nat} {w : World} (hA : Arg w (.slice a m cap) xs) (h : mayW R C S O m = true) (h0 : hasB R C = true) :
    Calls Try.prog 81 #[.slice a m cap, .agg #[.int .i64 (R : Int), .int .i64 (C : Int), .int .i64 S, .int .i64 O]] w fun e W' => ∃ b c, e = .returned (.tuple #[.agg #[.int .i64 (R : Int), .int .i64 (C : Int), .slice b (R * C) c], .int .i64 0]) ∧ New w.heap.size W' (.slice b (R * C) c) (cpyW xs R C S O) ∧ Below w.heap.size w W' := by
  have hb := mayW_iff.1 h
  have hk := fun w => view_check (R := (R : Int)) (C := (C : Int)) (S := S) (O := O) (words := (m : Int)) (w := w)
  rw [show chkW R C S O m = 0 by unfold chkW; rw [h]; rfl] at hk
  have hhas := fun w => view_has (R := (R : Int)) (C := (C : Int)) (S := S) (O := O) (w := w)
  rw [h0] at hhas
  have hp := fun w => view_places (R := R) (C := C) (S := S) (O := O) (w := w) (by omega) (by omega) (by omega) (by omega) (by omega) (by omega)
  have hml : m = xs.length := by
    obtain ⟨a', c', e⟩ := hA.slice
    simp only [Value.slice.injEq] at e
    omega
  have hrc : R * C ≤ 4096 := by have := Nat.mul_le_mul (show R ≤ 64 by omega) (show C ≤ 64 by omega); omega
  have hwp : IntKind.i64.wrap ((R : Int) * (C : Int)) = ((R * C : Nat) : Int) := by rw [Int.natCast_mul]; exact IntWalk.i64_in _ (by omega)
  have hmk := make0_u64 (R * C) (by omega)
  have HOWN := Lib.hid (own0_u64 (R * C) (by omega))
  have hC0 : 0 < C := by have : (0 : Int) < R ∧ (0 : Int) < C := of_decide_eq_true h0; omega
  have hpv : ∀ k, k < R * C → ∃ p : Nat, zat (preZ C (plv S O) (R * C)) k = (p : Int) ∧ p < xs.length ∧ lim xs p = (fun i j => lim xs (plv S O i j).toNat) (k / C) (k % C) := by
    intro k hk
    have a1 : k / C < R := by rwa [Nat.div_lt_iff_lt_mul hC0]
    have q := plv_in h a1 (Nat.mod_lt k hC0)
    exact ⟨(plv S O (k / C) (k % C)).toNat, by rw [preZ_at _ hk]; omega, by omega, rfl⟩
  have hPL := preZ_length C (plv S O) (R * C)
  unfold cpyW
  generalize (fun i j => lim xs (plv S O i j).toNat) = g at *
  generalize preZ C (plv S O) (R * C) = zs at *
  have HPV := Lib.hid hpv
  have HPL := Lib.hid hPL
  have HSN := Lib.hid (show ∀ k, pre C g (k + 1) = pre C g k ++ [g (k / C) (k % C)] from fun k => by unfold pre; rw [List.range_succ, List.map_append, List.map_singleton])
  have HTB := Lib.hid (show tab R C g = pre C g (R * C) from rfl)
  obtain ⟨T, a', c', hT, e, hcap, HA⟩ := hA.opened
  simp only [Value.slice.injEq] at e
  obtain ⟨rfl, rfl, rfl⟩ := e
  obtain ⟨B, G1, G2, hw0⟩ := vbox2 w #[.int .i64 (R : Int), .int .i64 (C : Int), .int .i64 S, .int .i64 O] #[.int .i64 0, .int .i64 0, .slice none 0 0] 95 24 _ rfl
  have c0 := G1.cell (i := 0) rfl
  have c1 := G1.cell (i := 1) rfl
  have c2 := G1.cell (i := 2) rfl
  have c3 := G1.cell (i := 3) rfl
  clear hpv hPL hb h h0 hA hml
  generalize xs.length = m at *
  generalize tab R C g = ys at *
  generalize R * C = N at *
  go_enter Try.func81, Try.ntmps81
  go_wp2_with fail
  generalize (w.alloc (.cells #[.int .i64 (R : Int), .int .i64 (C : Int), .int .i64 S, .int .i64 O] 95)).alloc (.cells #[.int .i64 0, .int .i64 0, .slice none 0 0] 24) = W0 at *
  refine (hk _).mono ?_
  rintro e w1 ⟨rfl, b1⟩
  clear hk
  replace B := below_both B b1
  replace G1 := G1.behind b1
  replace G2 := G2.behind b1
  replace hw0 := Nat.lt_of_lt_of_le hw0 b1.size
  have c0 := G1.cell (i := 0) rfl
  have c1 := G1.cell (i := 1) rfl
  have c2 := G1.cell (i := 2) rfl
  have c3 := G1.cell (i := 3) rfl
  go_wp2_with fail
  refine (hhas _).mono ?_
  rintro e w2 ⟨rfl, b2⟩
  clear hhas
  replace B := below_both B b2
  replace G1 := G1.behind b2
  replace G2 := G2.behind b2
  replace hw0 := Nat.lt_of_lt_of_le hw0 b2.size
  have c0 := G1.cell (i := 0) rfl
  have c1 := G1.cell (i := 1) rfl
  have hm1 := hmk w2
  have hown1 := HOWN.out w2
  have hB1 := bel_new w2 (.cells (madeCells #[.int .u64 0] N) 32)
  have HSZ : Hid (w2.heap.size < (w2.alloc (.cells (madeCells #[.int .u64 0] N) 32)).heap.size) := Lib.hid (by rw [World.size_alloc]; omega)
  have c0' := (G1.behind hB1).cell (i := 0) rfl
  have c1' := (G1.behind hB1).cell (i := 1) rfl
  have c2' := (G1.behind hB1).cell (i := 2) rfl
  have c3' := (G1.behind hB1).cell (i := 3) rfl
  clear hmk
  go_wp2_with fail
  clear hm1
  generalize w2.alloc (.cells (madeCells #[.int .u64 0] N) 32) = W1 at *
  refine (hp _).mono ?_
  rintro e w3 ⟨v, rfl, hNP, b3⟩
  clear hp
  have hown3 := hown1.below b3
  have hB3 : Below w2.heap.size w2 w3 := below_both hB1 b3
  obtain ⟨Tp, ap, cp, hTp, ep, hgeN, HP⟩ := hNP.opened
  rw [HPL.out] at ep hgeN HP
  subst ep
  have hW1 : w2.heap.size < W1.heap.size := HSZ.out
  go_wp2
  go_loopw [7, 31] (fun d i wr => ∃ k : Nat, k ≤ N ∧ i = .int .i64 k ∧ d = .slice (some ⟨w2.heap.size, 0, none⟩) k N ∧ OwnK .u64 32 w2.heap.size wr (.slice (some ⟨w2.heap.size, 0, none⟩) k N) (zn (pre C g k)) ∧ Hid (wr.heap[Tp]? = w3.heap[Tp]?) ∧ Below w2.heap.size w2 wr ∧ Tp < wr.heap.size) (fun _ i _ => N - (intOf i).toNat)
  case atStart => exact ⟨0, Nat.zero_le _, rfl, rfl, hown3, Lib.hid rfl, hB3, hTp⟩
  case round =>
    obtain ⟨k, hk, rfl, rfl, hown, hTB, hB2, hTl⟩ := hrel
    by_cases hlt : k < N
    · obtain ⟨p, hz, hpm, hg⟩ := HPV.out k hlt
      obtain ⟨op, rfl, kp⟩ := HP.out wr hTB.out k hlt
      obtain ⟨oa, rfl, ka⟩ := HA.out wr (below_both B hB2) p hpm
      have HS := Lib.hid (HSN.out k)
      rw [hz] at kp
      rw [hg] at ka
      have hln : (zn (pre C g k)).length = k := by rw [zn_length, pre_length]
      have HTN : Hid (Tp ≠ w2.heap.size) := Lib.hid (by have := hgeN (by omega); omega)
      generalize g (k / C) (k % C) = x at *
      clear hz hg
      go_wp2_with (at_builtin; refine fit_u64 rfl _ _ rfl rfl rfl (cell_new1 _ _ _) (hown.alloc _) hln (by omega) ?_; intro w4 hown4 hg4)
      go_roundw
      case rel => exact ⟨k + 1, by omega, by simp, rfl, by rw [HS.out, zn_snoc]; exact hown4, Lib.hid ((hg4.block Tp (by rw [World.size_alloc]; omega) (fun h => HTN.out (by simpa using h))).trans ((Below.heap_alloc wr _ Tp hTl).trans hTB.out)), (hB2.alloc hB2.size _).grown hg4 (by have := hB2.size; rw [World.size_alloc]; omega) (fun q hq => by simp at hq; omega), Nat.lt_of_lt_of_le (show Tp < (wr.alloc _).heap.size by rw [World.size_alloc]; omega) hg4.size⟩
      case measure => simp [intOf]; omega
    · obtain rfl : k = N := by omega
      clear hlt
      have hnew := new_zn.2 (hown.new (Nat.lt_of_le_of_lt (Nat.zero_le _) (Nat.lt_of_lt_of_le hw0 hB2.size)))
      have hN2 : (zn (pre C g k)).length = k := by rw [zn_length, pre_length]
      have G3 := G1.behind hB2
      have c0 := G3.cell (i := 0) rfl
      have c1 := G3.cell (i := 1) rfl
      have G4 := G2.behind hB2
      have g0 := G4.cell (i := 0) rfl
      have g1 := G4.cell (i := 1) rfl
      have g2 := G4.cell (i := 2) rfl
      have f0 := G4.f 0
      have f1 := G4.f 1
      have f2 := G4.f 2
      rw [← HTB.out] at hnew
      have HNEW := Lib.hid hnew
      clear hnew hN2 hown hown1 hown3
      go_wp2
      exact bodyPost_ret (v := .tuple #[.agg #[.int .i64 (R : Int), .int .i64 (C : Int), .slice (some ⟨w2.heap.size, 0, none⟩) k k], .int .i64 0]) (by simp [results, Try.results81, go_sem, g0, g1, g2]) rfl
        ⟨_, _, rfl, (HNEW.out.put3 hw0 _ _ _).lower (by have := B.size; omega), (below_both B hB2).put3 (by omega) _ _ _⟩
set_option maxHeartbeats 4000000 in
theorem view_copy_no {a : Option Addr} {m cap : Nat} {R C S O : Int} {w : World} (h : mayW R C S O m = false ∨ hasB R C = false) :
    Calls Try.prog 81 #[.slice a m cap, .agg #[.int .i64 R, .int .i64 C, .int .i64 S, .int .i64 O]] w fun e W' => e = .returned (.tuple #[.agg #[.int .i64 0, .int .i64 0, .slice none 0 0], .int .i64 11]) ∧ Below w.heap.size w W' := by
  have hk := fun w => view_check (R := R) (C := C) (S := S) (O := O) (words := (m : Int)) (w := w)
  have hhas := fun w => view_has (R := R) (C := C) (S := S) (O := O) (w := w)
  obtain ⟨B, G1, G2, hw0⟩ := vbox2 w #[.int .i64 R, .int .i64 C, .int .i64 S, .int .i64 O] #[.int .i64 0, .int .i64 0, .slice none 0 0] 95 24 _ rfl
  have c0 := G1.cell (i := 0) rfl
  have c1 := G1.cell (i := 1) rfl
  have c2 := G1.cell (i := 2) rfl
  have c3 := G1.cell (i := 3) rfl
  cases hv : mayW R C S O m
  · rw [show chkW R C S O m = 11 by unfold chkW; rw [hv]; rfl] at hk
    clear h hv
    go_enter Try.func81, Try.ntmps81
    go_wp2_with fail
    generalize (w.alloc (.cells #[.int .i64 R, .int .i64 C, .int .i64 S, .int .i64 O] 95)).alloc (.cells #[.int .i64 0, .int .i64 0, .slice none 0 0] 24) = W0 at *
    refine (hk _).mono ?_
    rintro e w1 ⟨rfl, b1⟩
    replace B := below_both B b1
    replace G2 := G2.behind b1
    have g0 := G2.cell (i := 0) rfl
    have g1 := G2.cell (i := 1) rfl
    have g2 := G2.cell (i := 2) rfl
    have f0 := G2.f 0
    have f1 := G2.f 1
    have f2 := G2.f 2
    go_wp2
    exact bodyPost_ret (v := .tuple #[.agg #[.int .i64 0, .int .i64 0, .slice none 0 0], .int .i64 11]) (by simp [results, Try.results81, go_sem, g0, g1, g2]) rfl
      ⟨rfl, B.put3 (by omega) _ _ _⟩
  · rw [show chkW R C S O m = 0 by unfold chkW; rw [hv]; rfl] at hk
    have h0 : hasB R C = false := h.resolve_left (by rw [hv]; decide)
    rw [h0] at hhas
    clear h hv h0
    go_enter Try.func81, Try.ntmps81
    go_wp2_with fail
    generalize (w.alloc (.cells #[.int .i64 R, .int .i64 C, .int .i64 S, .int .i64 O] 95)).alloc (.cells #[.int .i64 0, .int .i64 0, .slice none 0 0] 24) = W0 at *
    refine (hk _).mono ?_
    rintro e w1 ⟨rfl, b1⟩
    replace B := below_both B b1
    replace G1 := G1.behind b1
    replace G2 := G2.behind b1
    have c0 := G1.cell (i := 0) rfl
    have c1 := G1.cell (i := 1) rfl
    have c2 := G1.cell (i := 2) rfl
    have c3 := G1.cell (i := 3) rfl
    go_wp2_with fail
    refine (hhas _).mono ?_
    rintro e w2 ⟨rfl, b2⟩
    replace B := below_both B b2
    replace G2 := G2.behind b2
    have g0 := G2.cell (i := 0) rfl
    have g1 := G2.cell (i := 1) rfl
    have g2 := G2.cell (i := 2) rfl
    have f0 := G2.f 0
    have f1 := G2.f 1
    have f2 := G2.f 2
    go_wp2
    exact bodyPost_ret (v := .tuple #[.agg #[.int .i64 0, .int .i64 0, .slice none 0 0], .int .i64 11]) (by simp [results, Try.results81, go_sem, g0, g1, g2]) rfl
      ⟨rfl, B.put3 (by omega) _ _ _⟩
end Go.Proofs.Ytdcebkhdnhdejaa
