/- view: Places, Apart. -/
import Derived.Test.YtgppbimbampenaaVwCopy
import Derived.Test.YtgppbimbampenaaOz
import Derived.Maps.OwnSet
import Derived.Maps.AppendAt
namespace Go.Proofs.Ytgppbimbampenaa
open Go.RowKit Go.Shelf Go.Maps
/-- a view's places, or none -/
def plZ (R C S O : Int) : List Int := if mayW R C S O 1048576 then preZ C.toNat (plv S O) (R.toNat * C.toNat) else []
theorem plZ_in {R C S O : Int} {k : Nat} (hk : k < (plZ R C S O).length) : 0 ≤ zat (plZ R C S O) k ∧ zat (plZ R C S O) k < 1048576 := by
  unfold plZ at hk ⊢
  cases h : mayW R C S O 1048576
  · rw [h] at hk; simp at hk
  · rw [h] at hk
    simp only [if_true] at hk ⊢
    rw [preZ_length] at hk
    rw [preZ_at _ hk]
    have hb := mayW_iff.1 h
    have hC : 0 < C.toNat := by
      rcases Nat.eq_zero_or_pos C.toNat with e | e
      · rw [e] at hk; simp at hk
      · exact e
    have h1 : k / C.toNat < R.toNat := by rwa [Nat.div_lt_iff_lt_mul hC]
    have hh : mayW (R.toNat : Int) (C.toNat : Int) S O ((1048576 : Nat) : Int) = true := by
      rw [Int.toNat_of_nonneg (by omega), Int.toNat_of_nonneg (by omega)]; exact h
    have := plv_in hh h1 (Nat.mod_lt k hC)
    omega
theorem plZ_small (R C S O : Int) : (plZ R C S O).length ≤ 4096 := by
  unfold plZ
  cases h : mayW R C S O 1048576
  · simp
  · simp only [if_true]
    rw [preZ_length]
    have hb := mayW_iff.1 h
    have := Nat.mul_le_mul (show R.toNat ≤ 64 by omega) (show C.toNat ≤ 64 by omega)
    omega
theorem view_Places {R C S O : Int} {w : World} : Calls Try.prog 16 #[.agg #[.int .i64 R, .int .i64 C, .int .i64 S, .int .i64 O]] w fun e W' => ∃ v, e = .returned v ∧ NewK .i64 w.heap.size W' v (plZ R C S O) ∧ Below w.heap.size w W' := by
  obtain ⟨bx, G⟩ := mbox w #[.int .i64 R, .int .i64 C, .int .i64 S, .int .i64 O] 23 _ rfl
  have c00 := G.cell (i := 0) rfl
  have c01 := G.cell (i := 1) rfl
  have c02 := G.cell (i := 2) rfl
  have c03 := G.cell (i := 3) rfl
  have hk := fun w => view_check (R := R) (C := C) (S := S) (O := O) (words := 1048576) (w := w)
  have hsz : Hid (w.heap.size < (w.alloc (.cells #[.int .i64 R, .int .i64 C, .int .i64 S, .int .i64 O] 23)).heap.size) := Lib.hid (by rw [World.size_alloc]; omega)
  unfold plZ
  cases h : mayW R C S O 1048576
  · rw [show chkW R C S O 1048576 = 11 by unfold chkW; rw [h]; rfl] at hk
    simp only [Bool.false_eq_true, if_false]
    clear h
    go_enter Try.func16, Try.ntmps16
    go_wp2_with fail
    generalize w.alloc (.cells #[.int .i64 R, .int .i64 C, .int .i64 S, .int .i64 O] 23) = W0 at *
    refine (hk _).mono ?_
    rintro e w1 ⟨rfl, b1⟩
    go_wp2
    go_ret
    exact ⟨_, rfl, ⟨w.heap.size, .inl ⟨⟨_, _, rfl⟩, rfl⟩, Nat.lt_of_lt_of_le hsz.out b1.size, .inl rfl⟩, below_both bx b1⟩
  · rw [show chkW R C S O 1048576 = 0 by unfold chkW; rw [h]; rfl] at hk
    simp only [if_true]
    have hb := mayW_iff.1 h
    have hp := fun w => view_places (R := R.toNat) (C := C.toNat) (S := S) (O := O) (w := w) (by omega) (by omega) (by omega) (by omega) (by omega) (by omega)
    rw [Int.toNat_of_nonneg (by omega), Int.toNat_of_nonneg (by omega)] at hp
    generalize preZ C.toNat (plv S O) (R.toNat * C.toNat) = Z at *
    clear h hb
    go_enter Try.func16, Try.ntmps16
    go_wp2_with fail
    generalize w.alloc (.cells #[.int .i64 R, .int .i64 C, .int .i64 S, .int .i64 O] 23) = W0 at *
    refine (hk _).mono ?_
    rintro e w1 ⟨rfl, b1⟩
    replace bx := below_both bx b1
    replace G := G.behind b1
    have c00 := G.cell (i := 0) rfl
    have c01 := G.cell (i := 1) rfl
    have c02 := G.cell (i := 2) rfl
    have c03 := G.cell (i := 3) rfl
    clear hk b1
    go_wp2_with fail
    refine (hp _).mono ?_
    rintro e w2 ⟨v, rfl, hN, b2⟩
    clear hp
    go_wp2
    go_ret
    exact ⟨v, rfl, hN.mono bx.size, below_both bx b2⟩
/-- no place is in both -/
def apB (ps qs : List Int) : Bool := (List.range ps.length).all fun i => (List.range qs.length).all fun k => zat ps i != zat qs k
theorem apB_iff {ps qs : List Int} : apB ps qs = true ↔ ∀ i, i < ps.length → ∀ k, k < qs.length → zat ps i ≠ zat qs k := by
  simp [apB]
theorem apB_no {ps qs : List Int} {i k : Nat} (hi : i < ps.length) (hk : k < qs.length) (h : zat ps i = zat qs k) : apB ps qs = false := by
  rw [Bool.eq_false_iff]
  intro q
  exact apB_iff.1 q i hi k hk h
/-- the keys of the first k places -/
def keyL (ps : List Int) (k : Nat) : List Lit := (List.range k).map fun j => Lit.int .i64 (zat ps j)
theorem keyL_succ (ps : List Int) (k : Nat) : keyL ps (k + 1) = keyL ps k ++ [Lit.int .i64 (zat ps k)] := by
  unfold keyL; rw [List.range_succ, List.map_append, List.map_singleton]
def setD (ps : List Int) (k : Nat) : DataW Unit := setOf (.agg []) (keyL ps k)
theorem setD_succ (ps : List Int) (k : Nat) : setD ps (k + 1) = (setD ps k).put (.int .i64 (zat ps k)) (.agg []) := by
  unfold setD; rw [keyL_succ, setOf_snoc]
theorem law_int : Keyed Try.prog 3 := int_keyed Try.underlying3
theorem zero_unit (w : World) : (zeroValue 89).run Try.prog w = .ok (.agg #[]) w := by kernel_rfl
theorem has_setD {ps : List Int} {k : Nat} {z : Int} : Maps.has (setD ps k) (.int .i64 z) = (List.range k).any fun j => zat ps j == z := by
  unfold setD
  rw [has_setOf]
  · unfold keyL
    rw [List.any_map]
    congr 1
    funext j
    simp only [Function.comp, Lit.sameKey, true_and]
    exact (Bool.beq_eq_decide_eq _ _).symm
  · intro x hx
    unfold keyL at hx
    obtain ⟨j, _, rfl⟩ := List.mem_map.1 hx
    trivial
theorem map_below {H : Type} {P : Program} {k : TypeId} {R : Value → Option (DataW H × List MemPlace)} {b n : Nat} {D : DataW H} {w W' : World} (h : w.ownsMap P k R b n D) (hB : Below w.heap.size w W') : W'.ownsMap P k R b n D := by
  have hlt := h.lt
  obtain ⟨es, clock, hb, F, hs, hD⟩ := h
  exact ⟨es, clock, (hB.block b hlt).trans hb, F, hs, hD⟩
theorem wf_small {z : Int} (h : 0 ≤ z ∧ z < 1048576) : (Lit.int .i64 z).wf = true := WalkArith.wf_i64 (by omega)
set_option maxRecDepth 100000 in
set_option maxHeartbeats 8000000 in
theorem view_apart {R C S O R' C' S' O' : Int} {w : World} (hpos : 0 < w.heap.size) : Calls Try.prog 18 #[.agg #[.int .i64 R, .int .i64 C, .int .i64 S, .int .i64 O], .agg #[.int .i64 R', .int .i64 C', .int .i64 S', .int .i64 O']] w fun e W' => e = .returned (.bool (apB (plZ R C S O) (plZ R' C' S' O'))) ∧ Below w.heap.size w W' := by
  obtain ⟨B, G1, G2, hw0⟩ := vbox2 w #[.int .i64 R, .int .i64 C, .int .i64 S, .int .i64 O] #[.int .i64 R', .int .i64 C', .int .i64 S', .int .i64 O'] 23 23 _ rfl
  have P1 := fun w => view_Places (R := R) (C := C) (S := S) (O := O) (w := w)
  have P2 := fun w => view_Places (R := R') (C := C') (S := S') (O := O') (w := w)
  have N1 := Lib.hid (plZ_small R C S O)
  have N2 := Lib.hid (plZ_small R' C' S' O')
  have I1 := Lib.hid (fun k => @plZ_in R C S O k)
  have I2 := Lib.hid (fun k => @plZ_in R' C' S' O' k)
  generalize plZ R C S O = ps at *
  generalize plZ R' C' S' O' = qs at *
  have HY := Lib.hid (@apB_iff ps qs)
  have HN := Lib.hid (fun i k => @apB_no ps qs i k)
  generalize apB ps qs = A at *
  have hmm := @run_makeMap Try.prog
  have hW0 : ((w.alloc (.cells #[.int .i64 R, .int .i64 C, .int .i64 S, .int .i64 O] 23)).alloc (.cells #[.int .i64 R', .int .i64 C', .int .i64 S', .int .i64 O'] 23)).heap.size = w.heap.size + 1 + 1 := by rw [World.size_alloc, World.size_alloc]
  go_enter Try.func18, Try.ntmps18
  go_wp2_with fail
  generalize (w.alloc (.cells #[.int .i64 R, .int .i64 C, .int .i64 S, .int .i64 O] 23)).alloc (.cells #[.int .i64 R', .int .i64 C', .int .i64 S', .int .i64 O'] 23) = W0 at *
  have hM0 := World.ownsMap_made W0 Try.prog 3 (unitElem (H := Unit))
  have hMs : Hid (W0.heap.size < (W0.alloc (.map #[] 0)).heap.size) := Lib.hid (by rw [World.size_alloc]; omega)
  have bm : Below W0.heap.size W0 (W0.alloc (.map #[] 0)) := (Below.refl _ W0).alloc (Nat.le_refl _) _
  rw [hW0] at hM0
  generalize hMM : w.heap.size + 1 + 1 = M at *
  have hwM : w.heap.size + 1 < M := by omega
  replace B := below_both B bm
  replace G2 := G2.behind bm
  generalize W0.alloc (.map #[] 0) = W1 at *
  refine (P1 _).mono ?_
  rintro e w2 ⟨v, rfl, hN, b2⟩
  have hM1 : M < W1.heap.size := by have := hMs.out; omega
  replace hM0 := map_below hM0 b2
  replace B := below_both B b2
  replace G2 := G2.behind b2
  obtain ⟨T, a1, cap, hT, rfl, hge, HP⟩ := hN.opened
  have hM2 := Nat.lt_of_lt_of_le hM1 b2.size
  have HTM : Hid (0 < ps.length → T ≠ M) := Lib.hid (fun h => by have := hge h; omega)
  have hG2 : w.heap.size + 1 < w2.heap.size := by have := b2.size; omega
  have HG2 := Lib.hid G2
  clear hN b2 bm hMs hW0 P1 hge hM1 G1 hw0 hMM
  have hn1 := N1.out
  generalize ps.length = m at *
  go_wp2
  go_loopw [16] (fun i wr => ∃ k : Nat, k ≤ m ∧ i = .int .i64 k ∧ wr.ownsMap Try.prog 3 unitElem M k (setD ps k) ∧ Hid (0 < m → wr.heap[T]? = w2.heap[T]?) ∧ Hid (wr.heap[w.heap.size + 1]? = w2.heap[w.heap.size + 1]?) ∧ Below w.heap.size w wr ∧ w2.heap.size ≤ wr.heap.size) (fun i _ => m - (intOf i).toNat)
  case atStart => exact ⟨0, Nat.zero_le _, rfl, hM0, Lib.hid (fun _ => rfl), Lib.hid rfl, B, Nat.le_refl _⟩
  case round =>
    obtain ⟨k, hk, rfl, hM, hT1, hG, hB, hsz⟩ := hrel
    by_cases hlt : k < m
    · obtain ⟨o, rfl, kc⟩ := HP.out wr (hT1.out (by omega)) k hlt
      have hkey : keyOf Try.prog 3 (.int .i64 (zat ps k)) = some (.int .i64 (zat ps k)) := keyOf_int_mk Try.underlying3 (wf_small (I1.out k hlt))
      have HS := Lib.hid (setD_succ ps k)
      have hTM := HTM.out (by omega)
      generalize zat ps k = z at *
      go_wp2_with (first
        | (at_mapUpdate; refine wpList_mapUpdate_own _ rfl _ _ _ 88 rfl 3 89 law_int Try.underlying88 (unitElem (H := Unit)) M k _ rfl hM (by unfold maxLen; omega) _ _ _ rfl rfl hkey _ [] unitElem_mk ?_; intro w3 hM3 hg3))
      go_roundw
      case rel => exact ⟨k + 1, by omega, by simp, by rw [HS.out]; exact hM3, Lib.hid (fun h => (hg3.block T (by omega) (by simp [hTM])).trans (hT1.out h)), Lib.hid ((hg3.block _ (by omega) (by simp; omega)).trans hG.out), hB.grown hg3 hB.size (fun j hj => by cases hj; omega), Nat.le_trans hsz hg3.size⟩
      case measure => simp [intOf]; omega
    · obtain rfl : k = m := by omega
      have G3 : Ms wr (w.heap.size + 1) #[.int .i64 R', .int .i64 C', .int .i64 S', .int .i64 O'] 23 := hG.out.trans HG2.out
      have c00 := G3.cell (i := 0) rfl
      have c01 := G3.cell (i := 1) rfl
      have c02 := G3.cell (i := 2) rfl
      have c03 := G3.cell (i := 3) rfl
      have hp3 : 0 < wr.heap.size := by omega
      clear hT1 HP HTM hG HG2 I1 hlt
      obtain ⟨wo, rfl⟩ : ∃ wo, wo = wr := ⟨_, rfl⟩
      go_wp2_with fail
      refine (P2 _).mono ?_
      rintro e w4 ⟨v, rfl, hN, b4⟩
      obtain ⟨T2, a2, cap2, hT2, rfl, _, HQ⟩ := hN.arg.opened
      have hM4 := map_below hM b4
      replace hB := below_both hB b4
      have hn2 := N2.out
      clear hN P2 hM b4 G3 c00 c01 c02 c03 hT2
      generalize qs.length = n at *
      go_wp2
      go_loopw [27] (fun i wr => ∃ q : Nat, q ≤ n ∧ i = .int .i64 q ∧ Hid (∀ j, j < q → ∀ i, i < k → zat ps i ≠ zat qs j) ∧ wr.ownsMap Try.prog 3 (unitElem (H := Unit)) M k (setD ps k) ∧ Below w4.heap.size w4 wr) (fun i _ => n - (intOf i).toNat)
      case atStart => exact ⟨0, Nat.zero_le _, rfl, Lib.hid (fun j h => absurd h (Nat.not_lt_zero j)), hM4, Below.refl _ _⟩
      case round =>
        obtain ⟨q, hq, rfl, HJ, hM, hB4⟩ := hrel
        by_cases hlt : q < n
        · obtain ⟨o, rfl, kc⟩ := HQ.out wr hB4 q hlt
          have hkey : keyOf Try.prog 3 (.int .i64 (zat qs q)) = some (.int .i64 (zat qs q)) := keyOf_int_mk Try.underlying3 (wf_small (I2.out q hlt))
          have hh := @has_setD ps k (zat qs q)
          have HB4 := Lib.hid (fun u t => (hB4.alloc hB4.size (.cells u t)))
          cases hc : (List.range k).any fun j => zat ps j == zat qs q
          · rw [hc] at hh
            have HJ2 : Hid (∀ j, j < q + 1 → ∀ i, i < k → zat ps i ≠ zat qs j) := Lib.hid (fun j hj i hi => by
              rcases Nat.lt_or_ge j q with e | e
              · exact HJ.out j e i hi
              · obtain rfl : j = q := by omega
                rw [List.any_eq_false] at hc
                have := hc i (List.mem_range.2 hi)
                simpa using this)
            clear hc
            generalize zat qs q = z at *
            go_wp2_with (first
              | (at_lookup; refine wpList_lookup_own_unit _ rfl _ _ 88 rfl 3 89 law_int Try.underlying88 (zero_unit _) M k _ rfl hM _ _ rfl hkey ?_; rw [hh]))
            go_roundw
            case rel => exact ⟨q + 1, by omega, by simp, HJ2, hM.alloc _, hB4.alloc hB4.size _⟩
            case measure => simp [intOf]; omega
          · rw [hc] at hh
            obtain ⟨i, hi, e⟩ := List.any_eq_true.1 hc
            have hA := HN.out i q (List.mem_range.1 hi) hlt (by simpa using e)
            subst hA
            clear hc e hi
            generalize zat qs q = z at *
            go_wp2_with (first
              | (at_lookup; refine wpList_lookup_own_unit _ rfl _ _ 88 rfl 3 89 law_int Try.underlying88 (zero_unit _) M k _ rfl hM _ _ rfl hkey ?_; rw [hh]))
            go_ret
            exact ⟨rfl, below_both hB (hB4.alloc hB4.size _)⟩
        · obtain rfl : q = n := by omega
          have hA := HY.out.2 (fun i hi j hj => HJ.out j hj i hi)
          subst hA
          go_wp2
          go_ret
          exact ⟨rfl, below_both hB hB4⟩
end Go.Proofs.Ytgppbimbampenaa
