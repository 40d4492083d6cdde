/- norm: One, Inf. -/
import Derived.Test.YtjiilechfjkkfaaNoSpec
import Derived.Test.YtjiilechfjkkfaaMaPair
namespace Go.Proofs.Ytjiilechfjkkfaa
open Go.RowKit Go.Shelf
theorem rowV_set {n j : Nat} {f g : Nat → Nat} (h : ∀ k, k < n → k ≠ j → f k = g k) : rowV n g = (rowV n f).set j (g j) := by
  refine ext_lim (by rw [List.length_set, rowV_length, rowV_length]) fun k hk => ?_
  rw [rowV_length] at hk
  rw [rowV_lim _ hk, lim_set, rowV_length]
  by_cases e : k = j
  · rw [if_pos ⟨e, by omega⟩, e]
  · rw [if_neg (fun q => e q.1), rowV_lim _ hk]
    exact (h k hk e).symm
/-- a column's numbers, without signs; how many of them are added before row i, column j -/
def colF (xs : List Nat) (_r c k : Nat) (t : Nat) : Nat := mag (lim xs (t * c + k))
def colC (_c i j k : Nat) : Nat := if k < j then i + 1 else i
def colS (xs : List Nat) (r c k : Nat) : Nat := sumS (colF xs r c k) r
def oneV (xs : List Nat) (r c : Nat) : Nat := mx (colS xs r c) c
/-- a row's -/
def rowF (xs : List Nat) (_r c k : Nat) (t : Nat) : Nat := mag (lim xs (k * c + t))
def rowC (c i j k : Nat) : Nat := if k < i then c else if k = i then j else 0
def rowS (xs : List Nat) (r c k : Nat) : Nat := sumS (rowF xs r c k) c
def infV (xs : List Nat) (r c : Nat) : Nat := mx (rowS xs r c) r
set_option maxRecDepth 100000 in
set_option maxHeartbeats 16000000 in
theorem norm_one {R C : Int} {a : Option Addr} {m cap : Nat} {xs : List Nat} {w : World} (hA : Arg w (.slice a m cap) xs) (hx : Low 18446744073709551616 xs) :
    Calls Try.prog 42 #[.agg #[.int .i64 R, .int .i64 C, .slice a m cap]] w fun e W' => e = .returned (.tuple #[.int .u64 (tolR (finM R C m xs) (oneV xs R.toNat C.toNat) : Int), .int .i64 (tolE (finM R C m xs) (oneV xs R.toNat C.toNat))]) ∧ Below w.heap.size w W' := by
  obtain ⟨B, G⟩ := mbox w #[.int .i64 R, .int .i64 C, .slice a m cap] 24 _ rfl
  have HF := Lib.hid (fun (W : World) (h : Below w.heap.size w W) => shape_finite (R := R) (C := C) (hA.behind h) hx)
  have hpos : 0 < w.heap.size := by obtain ⟨S, hS, _⟩ := hA; omega
  have c0 := G.cell (i := 0) rfl
  have c1 := G.cell (i := 1) rfl
  have c2 := G.cell (i := 2) rfl
  have hN := fun h => tol_no (F := finM R C m xs) (oneV xs R.toNat C.toNat) h
  have hmx : m = xs.length := by
    obtain ⟨a', c', e⟩ := hA.slice
    simp only [Value.slice.injEq] at e
    omega
  by_cases h : finM R C m xs = 0
  · obtain ⟨q1, q2, q3, q4, q5, q6, q7, q8⟩ := finM_may0 h
    obtain ⟨r, rfl⟩ : ∃ r : Nat, R = r := ⟨R.toNat, by omega⟩
    obtain ⟨c, rfl⟩ : ∃ r : Nat, C = r := ⟨C.toNat, by omega⟩
    have hmn : m = r * c := by rw [← Int.natCast_mul] at q5; omega
    have hfx : ∀ k, k < m → cls (lim xs k) ≤ 1 := by
      rw [hmx] at q8
      rw [finU_finB] at q8
      have hb : finB xs xs.length = true := by
        cases hb : finB xs xs.length
        · rw [hb] at q8; exact absurd q8 (by decide)
        · rfl
      intro k hk
      exact finB_iff.1 hb k (by omega)
    rw [h] at HF ⊢
    rw [Int.toNat_natCast, Int.toNat_natCast]
    have hr64 : r ≤ 64 := by omega
    have hc64 : c ≤ 64 := by omega
    have HPT : Hid (∀ k, k < m → Pos (mag (lim xs k))) := Lib.hid (fun k hk => (fin_mag (hfx k hk)).1)
    have HIX : Hid (∀ i j, i < r → j < c → i * c + j < m) := Lib.hid (fun i j hi hj => by
      have := Nat.mul_le_mul_right c (show i + 1 ≤ r from hi)
      rw [Nat.add_mul, Nat.one_mul] at this
      omega)
    have HST := Lib.hid (show oneV xs r c = mx (colS xs r c) c from rfl)
    have HPV : Hid (∀ k, k < c → Pos (colS xs r c k)) := Lib.hid (fun k hk => (sumS_pos (fun t ht => HPT.out _ (by exact HIX.out t k ht hk))).1)
    have HAB : Hid (∀ (P : Nat) (w : World), P < m → Calls Try.prog 59 #[.int .u64 (lim xs P : Int)] w fun e W' => e = .returned (.int .u64 (mag (lim xs P) : Int)) ∧ Below w.heap.size w W') := Lib.hid (fun P w hP => by
      have := fcmp_abs (a := lim xs P) (w := w) (by have := lim_lt hx (by decide : 0 < 18446744073709551616) P; omega)
      rwa [(fin_mag (hfx P hP)).2.2.1] at this)
    have HCN : Hid (∀ i j k, i < r → j < c → k < c → Pos (sumS (colF xs r c k) (colC c i j k))) := Lib.hid (fun i j k hi hj hk => (sumS_pos (fun t ht => HPT.out _ (by
      unfold colC at ht
      have : t < r := by (split at ht <;> omega)
      exact HIX.out t k this hk))).1)
    obtain ⟨S, a', c'', hS, e, hcap, HX⟩ := hA.opened
    simp only [Value.slice.injEq] at e
    obtain ⟨rfl, -, rfl⟩ := e
    rw [← hmx] at HX
    have hm4 : (m : Int) ≤ 4096 := by omega
    have hmk := makeN_u64 c (by omega)
    have HOWN := Lib.hid (fun W => OwnK.full .u64 32 W c (by omega))
    have HZ0 : Hid ((List.replicate c 0 : List Int) = zn (rowV c fun k => sumS (colF xs r c k) (colC c 0 0 k))) := Lib.hid (by
      rw [show (rowV c fun k => sumS (colF xs r c k) (colC c 0 0 k)) = List.replicate c 0 by
        refine ext_lim (by rw [rowV_length, List.length_replicate]) fun k hk => ?_
        rw [rowV_length] at hk
        rw [rowV_lim _ hk]
        have e : colC c 0 0 k = 0 := by unfold colC; simp
        rw [e]
        unfold lim
        rw [List.getElem?_replicate, if_pos hk]
        rfl]
      simp [zn])
    have HSE : Hid (∀ i, i < r → (rowV c fun k => sumS (colF xs r c k) (colC c i c k)) = (rowV c fun k => sumS (colF xs r c k) (colC c (i + 1) 0 k))) := Lib.hid (fun i hi => by
      unfold rowV
      refine List.map_congr_left fun k hk => ?_
      rw [List.mem_range] at hk
      congr 1
      unfold colC
      rw [if_pos hk, if_neg (by omega)])
    have HSS : Hid (∀ i j, i < r → j < c → zn (rowV c fun k => sumS (colF xs r c k) (colC c i (j + 1) k)) = (zn (rowV c fun k => sumS (colF xs r c k) (colC c i j k))).set j (plusU (sumS (colF xs r c j) (colC c i j j)) (mag (lim xs (i * c + j))) : Int)) := Lib.hid (fun i j hi hj => by
      rw [← zn_set]
      congr 1
      have e := rowV_set (n := c) (j := j) (f := fun k => sumS (colF xs r c k) (colC c i j k)) (g := fun k => sumS (colF xs r c k) (colC c i (j + 1) k)) (fun k hk hne => by
        show sumS _ _ = sumS _ _
        congr 1
        unfold colC
        by_cases q : k < j
        · rw [if_pos q, if_pos (by omega)]
        · rw [if_neg q, if_neg (by omega)])
      rw [e]
      congr 1
      show sumS (colF xs r c j) (colC c i (j + 1) j) = _
      have e1 : colC c i (j + 1) j = i + 1 := by unfold colC; rw [if_pos (by omega)]
      have e2 : colC c i j j = i := by unfold colC; rw [if_neg (by omega)]
      rw [e1, e2]; rfl)
    have HFI : Hid (maxU (rowV c fun k => sumS (colF xs r c k) (colC c r 0 k)) c = oneV xs r c ∧ Low 18446744073709551616 (rowV c fun k => sumS (colF xs r c k) (colC c r 0 k))) := Lib.hid (by
      have e : (rowV c fun k => sumS (colF xs r c k) (colC c r 0 k)) = rowV c (colS xs r c) := by
        unfold rowV
        refine List.map_congr_left fun k hk => ?_
        rw [List.mem_range] at hk
        have e0 : colC c r 0 k = r := by
          unfold colC
          rw [if_neg (by omega)]
        show sumS (colF xs r c k) (colC c r 0 k) = sumS (colF xs r c k) r
        rw [e0]
      rw [e, maxU_row HPV.out]
      exact ⟨HST.out.symm, rowV_low fun k hk => by have := HPV.out k hk; unfold Pos at this; omega⟩)
    have HTD := Lib.hid (fun w => norm_told (x := oneV xs r c) (w := w) (by have := mx_pos HPV.out; rw [← HST.out] at this; unfold Pos at this; omega))
    have hr63 : (r : Int) ≤ 64 := by omega
    have hc63 : (c : Int) ≤ 64 := by omega
    clear hN h hmx hmn hA hx hcap hfx q1 q2 q3 q4 q5 q6 q7 q8 HST HPT
    go_enter Try.func42, Try.ntmps42
    go_wp2_with fail
    generalize w.alloc (.cells #[.int .i64 (r : Int), .int .i64 (c : Int), .slice a m cap] 24) = W0 at *
    refine (HF.out _ B).mono ?_
    rintro e w1 ⟨rfl, b1⟩
    replace B := below_both B b1
    replace G := G.behind b1
    clear HF b1
    have c0 := G.cell (i := 0) rfl
    have c1 := G.cell (i := 1) rfl
    have c2 := G.cell (i := 2) rfl
    have hm1 := hmk w1
    have ho1 := HOWN.out w1
    rw [HZ0.out] at ho1
    have hB1 := bel_new w1 (.cells (madeCells #[.int .u64 0] c) 32)
    have c0' := (G.behind hB1).cell (i := 0) rfl
    have c1' := (G.behind hB1).cell (i := 1) rfl
    have hgd : w.heap.size < w1.heap.size := G.lt
    clear hmk HOWN HZ0
    go_wp2
    clear hm1
    generalize hW2 : w1.alloc (.cells (madeCells #[.int .u64 0] c) 32) = w2 at *
    clear hW2 c0' c1' c0 c1 c2
    have HGD := Lib.hid hgd
    have hS1 : S < w1.heap.size := Nat.lt_of_lt_of_le hS B.size
    go_loopw [18] (fun i wr => ∃ k : Nat, k ≤ r ∧ i = .int .i64 k ∧ OwnK .u64 32 w1.heap.size wr (.slice (some ⟨w1.heap.size, 0, none⟩) c c) (zn (rowV c fun q => sumS (colF xs r c q) (colC c k 0 q))) ∧ Below w1.heap.size w1 wr) (fun i _ => r - (intOf i).toNat)
    case atStart => exact ⟨0, Nat.zero_le _, rfl, ho1, hB1⟩
    case round =>
      obtain ⟨i, hi, rfl, ho, hB⟩ := hrel
      have c1 : wr.cell? ⟨w.heap.size, 1, none⟩ = some (.int .i64 (c : Int)) := (G.behind hB).cell (i := 1) rfl
      by_cases hlt : i < r
      · obtain ⟨wo, rfl⟩ : ∃ wo, wo = wr := ⟨_, rfl⟩
        go_wp2
        have ho0 := ho
        clear ho
        go_loopw [23] (fun jv wx => ∃ j : Nat, j ≤ c ∧ jv = .int .i64 j ∧ OwnK .u64 32 w1.heap.size wx (.slice (some ⟨w1.heap.size, 0, none⟩) c c) (zn (rowV c fun q => sumS (colF xs r c q) (colC c i j q))) ∧ Below w1.heap.size w1 wx) (fun jv _ => c - (intOf jv).toNat)
        case atStart => exact ⟨0, Nat.zero_le _, rfl, ho0, hB⟩
        case round =>
          obtain ⟨j, hj, rfl, ho, hB5⟩ := hrel
          by_cases hjl : j < c
          · have hP := HIX.out i j hlt hjl
            obtain ⟨oa, rfl, ka⟩ := HX.out wr (below_both B hB5) (i * c + j) hP
            have hat : j < c := by omega
            have ko := ho.cell (j := j) (by rw [zn_length, rowV_length]; exact hat)
            rw [zn_at (by rw [rowV_length]; exact hat), rowV_lim _ hat] at ko
            have kf := ho.frozen j
            have hps := HCN.out i j j hlt hjl hat
            have HS1 := Lib.hid (HSS.out i j hlt hjl)
            have HA1 := Lib.hid (fun w => HAB.out (i * c + j) w hP)
            have hmg : mag (lim xs (i * c + j)) < 9223372036854775808 := Nat.mod_lt _ (by decide)
            obtain ⟨e1, e2⟩ := wplace (i := i) (C := c) (j := j) (by omega) hc64 (by omega)
            obtain ⟨P, hPP⟩ : ∃ P, P = i * c := ⟨_, rfl⟩
            rw [← hPP] at e1 e2 ka HS1 HA1 hP hmg
            have hi63 : (i : Int) ≤ 64 := by omega
            unfold Pos at hps
            generalize sumS (colF xs r c j) (colC c i j j) = s0 at *
            generalize hQ : P + j = Q at *
            generalize lim xs Q = x at *
            generalize mag x = mg at *
            have HP1 := Lib.hid (fun w => norm_add (a := s0) (b := mg) (w := w) (by omega) (by omega))
            generalize plusU s0 mg = s1 at *
            have hQm : (Q : Int) < (m : Int) := by omega
            have c1 : wr.cell? ⟨w.heap.size, 1, none⟩ = some (.int .i64 (c : Int)) := (G.behind hB5).cell (i := 1) rfl
            have c2 : wr.cell? ⟨w.heap.size, 2, none⟩ = some (.slice (some ⟨S, oa, none⟩) m cap) := (G.behind hB5).cell (i := 2) rfl
            have Br : Below wr.heap.size wr wr := Below.refl _ _
            have HGR : Hid (w.heap.size < wr.heap.size ∧ S < wr.heap.size ∧ w1.heap.size < wr.heap.size) := Lib.hid ⟨Nat.lt_of_lt_of_le hgd hB5.size, Nat.lt_of_lt_of_le hS1 hB5.size, (World.ownsRow.lt ho _ rfl).2⟩
            have HC1 := Lib.hid c1
            have HC2 := Lib.hid c2
            have HKA := Lib.hid ka
            have HKO := Lib.hid ko
            clear hps hmg hPP hQ
            have HK : Hid (∀ W, Below wr.heap.size wr W → W.cell? ⟨w.heap.size, 1, none⟩ = some (.int .i64 (c : Int)) ∧ W.cell? ⟨w.heap.size, 2, none⟩ = some (.slice (some ⟨S, oa, none⟩) m cap) ∧ W.cell? ⟨S, oa + Q, none⟩ = some (.int .u64 (x : Int))) := Lib.hid (fun W h =>
              ⟨(h.cell (p := ⟨w.heap.size, 1, none⟩) HGR.out.1).trans HC1.out, (h.cell (p := ⟨w.heap.size, 2, none⟩) HGR.out.1).trans HC2.out, (h.cell (p := ⟨S, oa + Q, none⟩) HGR.out.2.1).trans HKA.out⟩)
            have HKS : Hid (∀ W u, Below wr.heap.size wr W → (W.setCell ⟨w1.heap.size, j, none⟩ u).cell? ⟨w.heap.size, 1, none⟩ = some (.int .i64 (c : Int)) ∧ (W.setCell ⟨w1.heap.size, j, none⟩ u).cell? ⟨w.heap.size, 2, none⟩ = some (.slice (some ⟨S, oa, none⟩) m cap) ∧ (W.setCell ⟨w1.heap.size, j, none⟩ u).cell? ⟨S, oa + Q, none⟩ = some (.int .u64 (x : Int))) := Lib.hid (fun W u h =>
              ⟨cell_off (HK.out W h).1 (Nat.ne_of_lt HGD.out), cell_off (HK.out W h).2.1 (Nat.ne_of_lt HGD.out), cell_off (HK.out W h).2.2 (Nat.ne_of_lt hS1)⟩)
            go_upto_region 11 with (fail)
            as_aux_lemma =>
              refine wp_region_held_drew (S := fun W => W.cell? ⟨w.heap.size, 1, none⟩ = some (.int .i64 (c : Int)) ∧ W.cell? ⟨w.heap.size, 2, none⟩ = some (.slice (some ⟨S, oa, none⟩) m cap) ∧ W.cell? ⟨S, oa + Q, none⟩ = some (.int .u64 (x : Int))) (by kernel_rfl) ?_ (fun hHeld => ?_)
              · (try dsimp only); first | with_reducible exact HK.out _ Br | with_reducible exact HK.out _ Br.drew | exact HKS.out _ _ Br
              refine wpAnyH_take (i := 0) (oi := { dst := some 26, op := _, type := _, pos := _, after := _, guard := _ }) (v := ?v0) rfl (by kernel_rfl) (by kernel_rfl) (by kernel_rfl) (fun _ _ _ h => h) (Or.inl ⟨by rfl, ?hy0⟩) (by assumption) ?rest0
              case hy0 => intro w hSw; (try dsimp only at hSw); go_simp; first | done | with_reducible rfl
              simp only [Act.put, List.setIfInBounds_toArray, List.set_cons_zero, List.set_cons_succ]
              refine wpAnyH_take (i := 1) (oi := { dst := some 27, op := _, type := _, pos := _, after := _, guard := _ }) (v := ?v1) rfl (by kernel_rfl) (by kernel_rfl) (by kernel_rfl) (fun _ _ _ h => h) (Or.inl ⟨by rfl, ?hy1⟩) (by assumption) ?rest1
              case hy1 => intro w hSw; (try dsimp only at hSw); go_simp; first | done | with_reducible rfl
              simp only [Act.put, List.setIfInBounds_toArray, List.set_cons_zero, List.set_cons_succ]
              refine wpAnyH_take (i := 2) (oi := { dst := some 28, op := _, type := _, pos := _, after := _, guard := _ }) (v := ?v2) rfl (by kernel_rfl) (by kernel_rfl) (by kernel_rfl) (fun _ _ _ h => h) (Or.inl ⟨by rfl, ?hy2⟩) (by assumption) ?rest2
              case hy2 => intro w hSw; (try dsimp only at hSw); go_simp; first | done | with_reducible rfl
              simp only [Act.put, List.setIfInBounds_toArray, List.set_cons_zero, List.set_cons_succ]
              refine wpAnyH_take (i := 3) (oi := { dst := some 29, op := _, type := _, pos := _, after := _, guard := _ }) (v := ?v3) rfl (by kernel_rfl) (by kernel_rfl) (by kernel_rfl) (fun _ _ _ h => h) (Or.inl ⟨by rfl, ?hy3⟩) (by assumption) ?rest3
              case hy3 => intro w hSw; (try dsimp only at hSw); go_simp; first | done | with_reducible rfl
              simp only [Act.put, List.setIfInBounds_toArray, List.set_cons_zero, List.set_cons_succ]
              refine wpAnyH_take (i := 4) (oi := { dst := some 30, op := _, type := _, pos := _, after := _, guard := _ }) (v := ?v4) rfl (by kernel_rfl) (by kernel_rfl) (by kernel_rfl) (fun _ _ _ h => h) (Or.inl ⟨by rfl, ?hy4⟩) (by assumption) ?rest4
              case hy4 => intro w hSw; (try dsimp only at hSw); go_simp; first | done | with_reducible rfl
              simp only [Act.put, List.setIfInBounds_toArray, List.set_cons_zero, List.set_cons_succ]
              refine wpAnyH_take (i := 6) (oi := { dst := some 32, op := _, type := _, pos := _, after := _, guard := _ }) (v := ?v6) rfl (by kernel_rfl) (by kernel_rfl) (by kernel_rfl) (fun _ _ _ h => h) (Or.inl ⟨by rfl, ?hy6⟩) (by assumption) ?rest6
              case hy6 => intro w hSw; (try dsimp only at hSw); go_simp; first | done | with_reducible rfl
              simp only [Act.put, List.setIfInBounds_toArray, List.set_cons_zero, List.set_cons_succ]
              refine wpAnyH_take (i := 7) (oi := { dst := some 33, op := _, type := _, pos := _, after := _, guard := _ }) (v := ?v7) rfl (by kernel_rfl) (by kernel_rfl) (by kernel_rfl) (fun _ _ _ h => h) (Or.inl ⟨by rfl, ?hy7⟩) (by assumption) ?rest7
              case hy7 => intro w hSw; (try dsimp only at hSw); go_simp; first | done | with_reducible rfl
              simp only [Act.put, List.setIfInBounds_toArray, List.set_cons_zero, List.set_cons_succ]
              refine wpAnyH_take (i := 8) (oi := { dst := some 34, op := _, type := _, pos := _, after := _, guard := _ }) (v := ?v8) rfl (by kernel_rfl) (by kernel_rfl) (by kernel_rfl) (fun _ _ _ h => h) (Or.inl ⟨by rfl, ?hy8⟩) (by assumption) ?rest8
              case hy8 => intro w hSw; (try dsimp only at hSw); go_simp; first | done | with_reducible rfl
              simp only [Act.put, List.setIfInBounds_toArray, List.set_cons_zero, List.set_cons_succ]
              refine wpAnyH_take (i := 9) (oi := { dst := some 35, op := _, type := _, pos := _, after := _, guard := _ }) (v := ?v9) rfl (by kernel_rfl) (by kernel_rfl) (by kernel_rfl) (fun _ _ _ h => h) (Or.inl ⟨by rfl, ?hy9⟩) (by assumption) ?rest9
              case hy9 => intro w hSw; (try dsimp only at hSw); go_simp; first | done | with_reducible rfl
              simp only [Act.put, List.setIfInBounds_toArray, List.set_cons_zero, List.set_cons_succ]
              refine wpAnyH_take (i := 10) (oi := { dst := some 36, op := _, type := _, pos := _, after := _, guard := _ }) (v := ?v10) rfl (by kernel_rfl) (by kernel_rfl) (by kernel_rfl) (fun _ _ _ h => h) (Or.inl ⟨by rfl, ?hy10⟩) (by assumption) ?rest10
              case hy10 => intro w hSw; (try dsimp only at hSw); go_simp; first | done | with_reducible rfl
              simp only [Act.put, List.setIfInBounds_toArray, List.set_cons_zero, List.set_cons_succ]
              refine wpAnyH_take (i := 11) (oi := { dst := some 37, op := _, type := _, pos := _, after := _, guard := _ }) (v := ?v11) rfl (by kernel_rfl) (by kernel_rfl) (by kernel_rfl) (fun _ _ _ h => h) (Or.inl ⟨by rfl, ?hy11⟩) (by assumption) ?rest11
              case hy11 => intro w hSw; (try dsimp only at hSw); go_simp; first | done | with_reducible rfl
              simp only [Act.put, List.setIfInBounds_toArray, List.set_cons_zero, List.set_cons_succ]
              refine wpAnyH_take (i := 12) (oi := { dst := some 38, op := _, type := _, pos := _, after := _, guard := _ }) (v := ?v12) rfl (by kernel_rfl) (by kernel_rfl) (by kernel_rfl) (fun _ _ _ h => h) (Or.inl ⟨by rfl, ?hy12⟩) (by assumption) ?rest12
              case hy12 => intro w hSw; (try dsimp only at hSw); go_simp; first | done | with_reducible rfl
              simp only [Act.put, List.setIfInBounds_toArray, List.set_cons_zero, List.set_cons_succ]
              refine wpAnyH_take (i := 13) (oi := { dst := some 39, op := _, type := _, pos := _, after := _, guard := _ }) (v := ?v13) rfl (by kernel_rfl) (by kernel_rfl) (by kernel_rfl) (fun _ _ _ h => h) (Or.inl ⟨by rfl, ?hy13⟩) (by assumption) ?rest13
              case hy13 => intro w hSw; (try dsimp only at hSw); go_simp; first | done | with_reducible rfl
              simp only [Act.put, List.setIfInBounds_toArray, List.set_cons_zero, List.set_cons_succ]
              refine wpAnyH_take (i := 14) (oi := { dst := some 40, op := _, type := _, pos := _, after := _, guard := _ }) (v := ?v14) rfl (by kernel_rfl) (by kernel_rfl) (by kernel_rfl) (fun _ _ _ h => h) (Or.inl ⟨by rfl, ?hy14⟩) (by assumption) ?rest14
              case hy14 => intro w hSw; (try dsimp only at hSw); go_simp; first | done | with_reducible rfl
              simp only [Act.put, List.setIfInBounds_toArray, List.set_cons_zero, List.set_cons_succ]
              refine wpAnyH_take (i := 15) (oi := { dst := some 41, op := _, type := _, pos := _, after := _, guard := _ }) (v := ?v15) rfl (by kernel_rfl) (by kernel_rfl) (by kernel_rfl) (fun _ _ _ h => h) (Or.inl ⟨by rfl, ?hy15⟩) (by assumption) ?rest15
              case hy15 => intro w hSw; (try dsimp only at hSw); go_simp; first | done | with_reducible rfl
              simp only [Act.put, List.setIfInBounds_toArray, List.set_cons_zero, List.set_cons_succ]
              have kod : wr.drew.cell? ⟨w1.heap.size, j, none⟩ = some (.int .u64 (s0 : Int)) := HKO.out
              refine wpAnyH_ready (rs := [5, 16]) (by kernel_rfl) (by simp) ?_
              refine AllReadyH.cons rfl (fun K hK => ?_) (AllReadyH.cons rfl (fun K hK => ?_) AllReadyH.nil)
              · go_simp
                refine hK.out _ _ ?_ (fun hHeld => ?_)
                · first | with_reducible exact HK.out _ Br | with_reducible exact HK.out _ Br.drew | exact HKS.out _ _ Br
                clear hK K
                try simp only [Act.put, List.setIfInBounds_toArray, List.set_cons_zero, List.set_cons_succ]
                refine wpAnyH_ready (rs := [16]) (by kernel_rfl) (by simp) ?_
                refine AllReadyH.cons rfl (fun K hK => ?_) AllReadyH.nil
                go_simp
                go_at_call 59
                refine (HA1.out _).mono ?_
                rintro e v4 ⟨rfl, bz⟩
                replace Br : Below wr.heap.size wr v4 := below_both Br.drew bz
                clear bz
                refine hK.out _ _ ?_ (fun hHeld => ?_)
                · first | with_reducible exact HK.out _ Br | with_reducible exact HK.out _ Br.drew | exact HKS.out _ _ Br
                clear hK K
                try simp only [Act.put, List.setIfInBounds_toArray, List.set_cons_zero, List.set_cons_succ]
                refine wpAnyH_ready (rs := [17]) (by kernel_rfl) (by simp) ?_
                refine AllReadyH.cons rfl (fun K hK => ?_) AllReadyH.nil
                go_simp
                go_at_call 85
                refine (HP1.out _).mono ?_
                rintro e v5 ⟨rfl, bz⟩
                replace Br : Below wr.heap.size wr v5 := below_both Br bz
                clear bz
                refine hK.out _ _ ?_ (fun hHeld => ?_)
                · first | with_reducible exact HK.out _ Br | with_reducible exact HK.out _ Br.drew | exact HKS.out _ _ Br
                clear hK K
                try simp only [Act.put, List.setIfInBounds_toArray, List.set_cons_zero, List.set_cons_succ]
                refine wpAnyH_take (i := 18) (oi := { dst := some 44, op := _, type := _, pos := _, after := _, guard := _ }) (v := ?v18) rfl (by kernel_rfl) (by kernel_rfl) (by kernel_rfl) (fun _ _ _ h => h) (Or.inl ⟨by rfl, ?hy18⟩) (by assumption) ?rest18
                case hy18 => intro w hSw; (try dsimp only at hSw); go_simp; first | done | with_reducible rfl
                simp only [Act.put, List.setIfInBounds_toArray, List.set_cons_zero, List.set_cons_succ]
                have ko5 := (Br.cell (p := ⟨w1.heap.size, j, none⟩) HGR.out.2.2).trans HKO.out
                have ho5 := ho.below Br
                have kf5 := ho5.frozen j
                refine wpAnyH_ready (rs := [19]) (by kernel_rfl) (by simp) ?_
                refine AllReadyH.cons rfl (fun K hK => ?_) AllReadyH.nil
                go_simp
                refine hK.out _ _ ?_ (fun hHeld => ?_)
                · first | with_reducible exact HK.out _ Br | with_reducible exact HK.out _ Br.drew | exact HKS.out _ _ Br
                clear hK K
                try simp only [Act.put, List.setIfInBounds_toArray, List.set_cons_zero, List.set_cons_succ]
                refine wpAnyH_done (by kernel_rfl) ?_ _
                have ho6 := ho5.set j (s1 : Int)
                rw [← HS1.out] at ho6
                have hB6 := (hB5.trans (Br.mono hB5.size)).setCell (p := ⟨w1.heap.size, j, none⟩) (Nat.le_refl _) (.int .u64 (s1 : Int))
                clear c1 c2 ka ko kf ko5 kf5
                go_wp2
                exact ⟨⟨j + 1, by omega, by simp, ho6, hB6⟩, by simp [intOf]; omega⟩
              · go_simp
                go_at_call 59
                refine (HA1.out _).mono ?_
                rintro e v4 ⟨rfl, bz⟩
                replace Br : Below wr.heap.size wr v4 := below_both Br.drew bz
                clear bz
                refine hK.out _ _ ?_ (fun hHeld => ?_)
                · first | with_reducible exact HK.out _ Br | with_reducible exact HK.out _ Br.drew | exact HKS.out _ _ Br
                clear hK K
                try simp only [Act.put, List.setIfInBounds_toArray, List.set_cons_zero, List.set_cons_succ]
                have ko4 := (Br.cell (p := ⟨w1.heap.size, j, none⟩) HGR.out.2.2).trans HKO.out
                refine wpAnyH_ready (rs := [5]) (by kernel_rfl) (by simp) ?_
                refine AllReadyH.cons rfl (fun K hK => ?_) AllReadyH.nil
                go_simp
                refine hK.out _ _ ?_ (fun hHeld => ?_)
                · first | with_reducible exact HK.out _ Br | with_reducible exact HK.out _ Br.drew | exact HKS.out _ _ Br
                clear hK K
                try simp only [Act.put, List.setIfInBounds_toArray, List.set_cons_zero, List.set_cons_succ]
                refine wpAnyH_ready (rs := [17]) (by kernel_rfl) (by simp) ?_
                refine AllReadyH.cons rfl (fun K hK => ?_) AllReadyH.nil
                go_simp
                go_at_call 85
                refine (HP1.out _).mono ?_
                rintro e v5 ⟨rfl, bz⟩
                replace Br : Below wr.heap.size wr v5 := below_both Br bz
                clear bz
                refine hK.out _ _ ?_ (fun hHeld => ?_)
                · first | with_reducible exact HK.out _ Br | with_reducible exact HK.out _ Br.drew | exact HKS.out _ _ Br
                clear hK K
                try simp only [Act.put, List.setIfInBounds_toArray, List.set_cons_zero, List.set_cons_succ]
                refine wpAnyH_take (i := 18) (oi := { dst := some 44, op := _, type := _, pos := _, after := _, guard := _ }) (v := ?v18b) rfl (by kernel_rfl) (by kernel_rfl) (by kernel_rfl) (fun _ _ _ h => h) (Or.inl ⟨by rfl, ?hy18b⟩) (by assumption) ?rest18b
                case hy18b => intro w hSw; (try dsimp only at hSw); go_simp; first | done | with_reducible rfl
                simp only [Act.put, List.setIfInBounds_toArray, List.set_cons_zero, List.set_cons_succ]
                have ko5 := (Br.cell (p := ⟨w1.heap.size, j, none⟩) HGR.out.2.2).trans HKO.out
                have ho5 := ho.below Br
                have kf5 := ho5.frozen j
                refine wpAnyH_ready (rs := [19]) (by kernel_rfl) (by simp) ?_
                refine AllReadyH.cons rfl (fun K hK => ?_) AllReadyH.nil
                go_simp
                refine hK.out _ _ ?_ (fun hHeld => ?_)
                · first | with_reducible exact HK.out _ Br | with_reducible exact HK.out _ Br.drew | exact HKS.out _ _ Br
                clear hK K
                try simp only [Act.put, List.setIfInBounds_toArray, List.set_cons_zero, List.set_cons_succ]
                refine wpAnyH_done (by kernel_rfl) ?_ _
                have ho6 := ho5.set j (s1 : Int)
                rw [← HS1.out] at ho6
                have hB6 := (hB5.trans (Br.mono hB5.size)).setCell (p := ⟨w1.heap.size, j, none⟩) (Nat.le_refl _) (.int .u64 (s1 : Int))
                clear c1 c2 ka ko kf ko5 kf5
                go_wp2
                exact ⟨⟨j + 1, by omega, by simp, ho6, hB6⟩, by simp [intOf]; omega⟩
          · obtain rfl : j = c := by omega
            have HSE1 := HSE.out i hlt
            rw [HSE1] at ho
            clear hjl HSE1
            go_wp2
            exact ⟨⟨i + 1, by omega, by simp, ho, hB5⟩, by simp [intOf]; omega⟩
      · obtain rfl : i = r := by omega
        clear hlt
        have hAr := (new_zn.2 (ho.new (Nat.lt_of_lt_of_le hpos (below_both B hB).size))).arg
        have HM := fcmp_max hAr HFI.out.2 (by rw [rowV_length]; omega)
        rw [rowV_length, HFI.out.1] at HM
        have HMH := Lib.hid HM
        clear HM hAr ho
        go_wp2_with fail
        refine HMH.out.mono ?_
        rintro e w2 ⟨rfl, b2⟩
        go_wp2_with fail
        refine (HTD.out _).mono ?_
        rintro e w3 ⟨rfl, rfl⟩
        go_wp2
        go_ret2
        exact ⟨rfl, below_both B (below_both hB b2)⟩
  · obtain ⟨e1, e2⟩ := hN h
    have d : (finM R C m xs != 0) = true := bne_iff_ne.2 h
    rw [e1, e2]
    generalize finM R C m xs = F at *
    clear h e1 e2 hN hmx hA hx
    go_enter Try.func42, Try.ntmps42
    go_wp2_with fail
    generalize w.alloc (.cells #[.int .i64 R, .int .i64 C, .slice a m cap] 24) = W0 at *
    refine (HF.out _ B).mono ?_
    rintro e w1 ⟨rfl, b1⟩
    go_wp2
    go_ret2
    exact ⟨rfl, below_both B b1⟩
set_option maxRecDepth 100000 in
set_option maxHeartbeats 16000000 in
theorem norm_inf {R C : Int} {a : Option Addr} {m cap : Nat} {xs : List Nat} {w : World} (hA : Arg w (.slice a m cap) xs) (hx : Low 18446744073709551616 xs) :
    Calls Try.prog 43 #[.agg #[.int .i64 R, .int .i64 C, .slice a m cap]] w fun e W' => e = .returned (.tuple #[.int .u64 (tolR (finM R C m xs) (infV xs R.toNat C.toNat) : Int), .int .i64 (tolE (finM R C m xs) (infV xs R.toNat C.toNat))]) ∧ Below w.heap.size w W' := by
  obtain ⟨B, G⟩ := mbox w #[.int .i64 R, .int .i64 C, .slice a m cap] 24 _ rfl
  have HF := Lib.hid (fun (W : World) (h : Below w.heap.size w W) => shape_finite (R := R) (C := C) (hA.behind h) hx)
  have hpos : 0 < w.heap.size := by obtain ⟨S, hS, _⟩ := hA; omega
  have c0 := G.cell (i := 0) rfl
  have c1 := G.cell (i := 1) rfl
  have c2 := G.cell (i := 2) rfl
  have hN := fun h => tol_no (F := finM R C m xs) (infV xs R.toNat C.toNat) h
  have hmx : m = xs.length := by
    obtain ⟨a', c', e⟩ := hA.slice
    simp only [Value.slice.injEq] at e
    omega
  by_cases h : finM R C m xs = 0
  · obtain ⟨q1, q2, q3, q4, q5, q6, q7, q8⟩ := finM_may0 h
    obtain ⟨r, rfl⟩ : ∃ r : Nat, R = r := ⟨R.toNat, by omega⟩
    obtain ⟨c, rfl⟩ : ∃ r : Nat, C = r := ⟨C.toNat, by omega⟩
    have hmn : m = r * c := by rw [← Int.natCast_mul] at q5; omega
    have hfx : ∀ k, k < m → cls (lim xs k) ≤ 1 := by
      rw [hmx] at q8
      rw [finU_finB] at q8
      have hb : finB xs xs.length = true := by
        cases hb : finB xs xs.length
        · rw [hb] at q8; exact absurd q8 (by decide)
        · rfl
      intro k hk
      exact finB_iff.1 hb k (by omega)
    rw [h] at HF ⊢
    rw [Int.toNat_natCast, Int.toNat_natCast]
    have hr64 : r ≤ 64 := by omega
    have hc64 : c ≤ 64 := by omega
    have HPT : Hid (∀ k, k < m → Pos (mag (lim xs k))) := Lib.hid (fun k hk => (fin_mag (hfx k hk)).1)
    have HIX : Hid (∀ i j, i < r → j < c → i * c + j < m) := Lib.hid (fun i j hi hj => by
      have := Nat.mul_le_mul_right c (show i + 1 ≤ r from hi)
      rw [Nat.add_mul, Nat.one_mul] at this
      omega)
    have HST := Lib.hid (show infV xs r c = mx (rowS xs r c) r from rfl)
    have HPV : Hid (∀ k, k < r → Pos (rowS xs r c k)) := Lib.hid (fun k hk => (sumS_pos (fun t ht => HPT.out _ (by exact HIX.out k t hk ht))).1)
    have HAB : Hid (∀ (P : Nat) (w : World), P < m → Calls Try.prog 59 #[.int .u64 (lim xs P : Int)] w fun e W' => e = .returned (.int .u64 (mag (lim xs P) : Int)) ∧ Below w.heap.size w W') := Lib.hid (fun P w hP => by
      have := fcmp_abs (a := lim xs P) (w := w) (by have := lim_lt hx (by decide : 0 < 18446744073709551616) P; omega)
      rwa [(fin_mag (hfx P hP)).2.2.1] at this)
    have HCN : Hid (∀ i j k, i < r → j < c → k < r → Pos (sumS (rowF xs r c k) (rowC c i j k))) := Lib.hid (fun i j k hi hj hk => (sumS_pos (fun t ht => HPT.out _ (by
      unfold rowC at ht
      have : t < c := by (split at ht; exact ht; split at ht <;> omega)
      exact HIX.out k t hk this))).1)
    obtain ⟨S, a', c'', hS, e, hcap, HX⟩ := hA.opened
    simp only [Value.slice.injEq] at e
    obtain ⟨rfl, -, rfl⟩ := e
    rw [← hmx] at HX
    have hm4 : (m : Int) ≤ 4096 := by omega
    have hmk := makeN_u64 r (by omega)
    have HOWN := Lib.hid (fun W => OwnK.full .u64 32 W r (by omega))
    have HZ0 : Hid ((List.replicate r 0 : List Int) = zn (rowV r fun k => sumS (rowF xs r c k) (rowC c 0 0 k))) := Lib.hid (by
      rw [show (rowV r fun k => sumS (rowF xs r c k) (rowC c 0 0 k)) = List.replicate r 0 by
        refine ext_lim (by rw [rowV_length, List.length_replicate]) fun k hk => ?_
        rw [rowV_length] at hk
        rw [rowV_lim _ hk]
        have e : rowC c 0 0 k = 0 := by unfold rowC; simp
        rw [e]
        unfold lim
        rw [List.getElem?_replicate, if_pos hk]
        rfl]
      simp [zn])
    have HSE : Hid (∀ i, i < r → (rowV r fun k => sumS (rowF xs r c k) (rowC c i c k)) = (rowV r fun k => sumS (rowF xs r c k) (rowC c (i + 1) 0 k))) := Lib.hid (fun i hi => by
      unfold rowV
      refine List.map_congr_left fun k hk => ?_
      rw [List.mem_range] at hk
      congr 1
      unfold rowC
      by_cases q : k < i
      · rw [if_pos q, if_pos (by omega)]
      · rw [if_neg q]
        by_cases q2 : k = i
        · rw [if_pos q2, if_pos (by omega)]
        · rw [if_neg q2, if_neg (by omega)]; split <;> rfl)
    have HSS : Hid (∀ i j, i < r → j < c → zn (rowV r fun k => sumS (rowF xs r c k) (rowC c i (j + 1) k)) = (zn (rowV r fun k => sumS (rowF xs r c k) (rowC c i j k))).set i (plusU (sumS (rowF xs r c i) (rowC c i j i)) (mag (lim xs (i * c + j))) : Int)) := Lib.hid (fun i j hi hj => by
      rw [← zn_set]
      congr 1
      have e := rowV_set (n := r) (j := i) (f := fun k => sumS (rowF xs r c k) (rowC c i j k)) (g := fun k => sumS (rowF xs r c k) (rowC c i (j + 1) k)) (fun k hk hne => by
        show sumS _ _ = sumS _ _
        congr 1
        unfold rowC
        by_cases q : k < i
        · rw [if_pos q, if_pos q]
        · rw [if_neg q, if_neg q, if_neg hne, if_neg hne])
      rw [e]
      congr 1
      show sumS (rowF xs r c i) (rowC c i (j + 1) i) = _
      have e1 : rowC c i (j + 1) i = j + 1 := by unfold rowC; rw [if_neg (by omega), if_pos rfl]
      have e2 : rowC c i j i = j := by unfold rowC; rw [if_neg (by omega), if_pos rfl]
      rw [e1, e2]; rfl)
    have HFI : Hid (maxU (rowV r fun k => sumS (rowF xs r c k) (rowC c r 0 k)) r = infV xs r c ∧ Low 18446744073709551616 (rowV r fun k => sumS (rowF xs r c k) (rowC c r 0 k))) := Lib.hid (by
      have e : (rowV r fun k => sumS (rowF xs r c k) (rowC c r 0 k)) = rowV r (rowS xs r c) := by
        unfold rowV
        refine List.map_congr_left fun k hk => ?_
        rw [List.mem_range] at hk
        have e0 : rowC c r 0 k = c := by
          unfold rowC
          rw [if_pos hk]
        show sumS (rowF xs r c k) (rowC c r 0 k) = sumS (rowF xs r c k) c
        rw [e0]
      rw [e, maxU_row HPV.out]
      exact ⟨HST.out.symm, rowV_low fun k hk => by have := HPV.out k hk; unfold Pos at this; omega⟩)
    have HTD := Lib.hid (fun w => norm_told (x := infV xs r c) (w := w) (by have := mx_pos HPV.out; rw [← HST.out] at this; unfold Pos at this; omega))
    have hr63 : (r : Int) ≤ 64 := by omega
    have hc63 : (c : Int) ≤ 64 := by omega
    clear hN h hmx hmn hA hx hcap hfx q1 q2 q3 q4 q5 q6 q7 q8 HST HPT
    go_enter Try.func43, Try.ntmps43
    go_wp2_with fail
    generalize w.alloc (.cells #[.int .i64 (r : Int), .int .i64 (c : Int), .slice a m cap] 24) = W0 at *
    refine (HF.out _ B).mono ?_
    rintro e w1 ⟨rfl, b1⟩
    replace B := below_both B b1
    replace G := G.behind b1
    clear HF b1
    have c0 := G.cell (i := 0) rfl
    have c1 := G.cell (i := 1) rfl
    have c2 := G.cell (i := 2) rfl
    have hm1 := hmk w1
    have ho1 := HOWN.out w1
    rw [HZ0.out] at ho1
    have hB1 := bel_new w1 (.cells (madeCells #[.int .u64 0] r) 32)
    have c0' := (G.behind hB1).cell (i := 0) rfl
    have c1' := (G.behind hB1).cell (i := 1) rfl
    have hgd : w.heap.size < w1.heap.size := G.lt
    clear hmk HOWN HZ0
    go_wp2
    clear hm1
    generalize hW2 : w1.alloc (.cells (madeCells #[.int .u64 0] r) 32) = w2 at *
    clear hW2 c0' c1' c0 c1 c2
    have HGD := Lib.hid hgd
    have hS1 : S < w1.heap.size := Nat.lt_of_lt_of_le hS B.size
    go_loopw [18] (fun i wr => ∃ k : Nat, k ≤ r ∧ i = .int .i64 k ∧ OwnK .u64 32 w1.heap.size wr (.slice (some ⟨w1.heap.size, 0, none⟩) r r) (zn (rowV r fun q => sumS (rowF xs r c q) (rowC c k 0 q))) ∧ Below w1.heap.size w1 wr) (fun i _ => r - (intOf i).toNat)
    case atStart => exact ⟨0, Nat.zero_le _, rfl, ho1, hB1⟩
    case round =>
      obtain ⟨i, hi, rfl, ho, hB⟩ := hrel
      have c1 : wr.cell? ⟨w.heap.size, 1, none⟩ = some (.int .i64 (c : Int)) := (G.behind hB).cell (i := 1) rfl
      by_cases hlt : i < r
      · obtain ⟨wo, rfl⟩ : ∃ wo, wo = wr := ⟨_, rfl⟩
        go_wp2
        have ho0 := ho
        clear ho
        go_loopw [23] (fun jv wx => ∃ j : Nat, j ≤ c ∧ jv = .int .i64 j ∧ OwnK .u64 32 w1.heap.size wx (.slice (some ⟨w1.heap.size, 0, none⟩) r r) (zn (rowV r fun q => sumS (rowF xs r c q) (rowC c i j q))) ∧ Below w1.heap.size w1 wx) (fun jv _ => c - (intOf jv).toNat)
        case atStart => exact ⟨0, Nat.zero_le _, rfl, ho0, hB⟩
        case round =>
          obtain ⟨j, hj, rfl, ho, hB5⟩ := hrel
          by_cases hjl : j < c
          · have hP := HIX.out i j hlt hjl
            obtain ⟨oa, rfl, ka⟩ := HX.out wr (below_both B hB5) (i * c + j) hP
            have hat : i < r := by omega
            have ko := ho.cell (j := i) (by rw [zn_length, rowV_length]; exact hat)
            rw [zn_at (by rw [rowV_length]; exact hat), rowV_lim _ hat] at ko
            have kf := ho.frozen i
            have hps := HCN.out i j i hlt hjl hat
            have HS1 := Lib.hid (HSS.out i j hlt hjl)
            have HA1 := Lib.hid (fun w => HAB.out (i * c + j) w hP)
            have hmg : mag (lim xs (i * c + j)) < 9223372036854775808 := Nat.mod_lt _ (by decide)
            obtain ⟨e1, e2⟩ := wplace (i := i) (C := c) (j := j) (by omega) hc64 (by omega)
            obtain ⟨P, hPP⟩ : ∃ P, P = i * c := ⟨_, rfl⟩
            rw [← hPP] at e1 e2 ka HS1 HA1 hP hmg
            have hi63 : (i : Int) ≤ 64 := by omega
            unfold Pos at hps
            generalize sumS (rowF xs r c i) (rowC c i j i) = s0 at *
            generalize hQ : P + j = Q at *
            generalize lim xs Q = x at *
            generalize mag x = mg at *
            have HP1 := Lib.hid (fun w => norm_add (a := s0) (b := mg) (w := w) (by omega) (by omega))
            generalize plusU s0 mg = s1 at *
            have hQm : (Q : Int) < (m : Int) := by omega
            have c1 : wr.cell? ⟨w.heap.size, 1, none⟩ = some (.int .i64 (c : Int)) := (G.behind hB5).cell (i := 1) rfl
            have c2 : wr.cell? ⟨w.heap.size, 2, none⟩ = some (.slice (some ⟨S, oa, none⟩) m cap) := (G.behind hB5).cell (i := 2) rfl
            have Br : Below wr.heap.size wr wr := Below.refl _ _
            have HGR : Hid (w.heap.size < wr.heap.size ∧ S < wr.heap.size ∧ w1.heap.size < wr.heap.size) := Lib.hid ⟨Nat.lt_of_lt_of_le hgd hB5.size, Nat.lt_of_lt_of_le hS1 hB5.size, (World.ownsRow.lt ho _ rfl).2⟩
            have HC1 := Lib.hid c1
            have HC2 := Lib.hid c2
            have HKA := Lib.hid ka
            have HKO := Lib.hid ko
            clear hps hmg hPP hQ
            have HK : Hid (∀ W, Below wr.heap.size wr W → W.cell? ⟨w.heap.size, 1, none⟩ = some (.int .i64 (c : Int)) ∧ W.cell? ⟨w.heap.size, 2, none⟩ = some (.slice (some ⟨S, oa, none⟩) m cap) ∧ W.cell? ⟨S, oa + Q, none⟩ = some (.int .u64 (x : Int))) := Lib.hid (fun W h =>
              ⟨(h.cell (p := ⟨w.heap.size, 1, none⟩) HGR.out.1).trans HC1.out, (h.cell (p := ⟨w.heap.size, 2, none⟩) HGR.out.1).trans HC2.out, (h.cell (p := ⟨S, oa + Q, none⟩) HGR.out.2.1).trans HKA.out⟩)
            have HKS : Hid (∀ W u, Below wr.heap.size wr W → (W.setCell ⟨w1.heap.size, i, none⟩ u).cell? ⟨w.heap.size, 1, none⟩ = some (.int .i64 (c : Int)) ∧ (W.setCell ⟨w1.heap.size, i, none⟩ u).cell? ⟨w.heap.size, 2, none⟩ = some (.slice (some ⟨S, oa, none⟩) m cap) ∧ (W.setCell ⟨w1.heap.size, i, none⟩ u).cell? ⟨S, oa + Q, none⟩ = some (.int .u64 (x : Int))) := Lib.hid (fun W u h =>
              ⟨cell_off (HK.out W h).1 (Nat.ne_of_lt HGD.out), cell_off (HK.out W h).2.1 (Nat.ne_of_lt HGD.out), cell_off (HK.out W h).2.2 (Nat.ne_of_lt hS1)⟩)
            go_upto_region 11 with (fail)
            as_aux_lemma =>
              refine wp_region_held_drew (S := fun W => W.cell? ⟨w.heap.size, 1, none⟩ = some (.int .i64 (c : Int)) ∧ W.cell? ⟨w.heap.size, 2, none⟩ = some (.slice (some ⟨S, oa, none⟩) m cap) ∧ W.cell? ⟨S, oa + Q, none⟩ = some (.int .u64 (x : Int))) (by kernel_rfl) ?_ (fun hHeld => ?_)
              · (try dsimp only); first | with_reducible exact HK.out _ Br | with_reducible exact HK.out _ Br.drew | exact HKS.out _ _ Br
              refine wpAnyH_take (i := 0) (oi := { dst := some 26, op := _, type := _, pos := _, after := _, guard := _ }) (v := ?v0) rfl (by kernel_rfl) (by kernel_rfl) (by kernel_rfl) (fun _ _ _ h => h) (Or.inl ⟨by rfl, ?hy0⟩) (by assumption) ?rest0
              case hy0 => intro w hSw; (try dsimp only at hSw); go_simp; first | done | with_reducible rfl
              simp only [Act.put, List.setIfInBounds_toArray, List.set_cons_zero, List.set_cons_succ]
              refine wpAnyH_take (i := 1) (oi := { dst := some 27, op := _, type := _, pos := _, after := _, guard := _ }) (v := ?v1) rfl (by kernel_rfl) (by kernel_rfl) (by kernel_rfl) (fun _ _ _ h => h) (Or.inl ⟨by rfl, ?hy1⟩) (by assumption) ?rest1
              case hy1 => intro w hSw; (try dsimp only at hSw); go_simp; first | done | with_reducible rfl
              simp only [Act.put, List.setIfInBounds_toArray, List.set_cons_zero, List.set_cons_succ]
              refine wpAnyH_take (i := 2) (oi := { dst := some 28, op := _, type := _, pos := _, after := _, guard := _ }) (v := ?v2) rfl (by kernel_rfl) (by kernel_rfl) (by kernel_rfl) (fun _ _ _ h => h) (Or.inl ⟨by rfl, ?hy2⟩) (by assumption) ?rest2
              case hy2 => intro w hSw; (try dsimp only at hSw); go_simp; first | done | with_reducible rfl
              simp only [Act.put, List.setIfInBounds_toArray, List.set_cons_zero, List.set_cons_succ]
              refine wpAnyH_take (i := 3) (oi := { dst := some 29, op := _, type := _, pos := _, after := _, guard := _ }) (v := ?v3) rfl (by kernel_rfl) (by kernel_rfl) (by kernel_rfl) (fun _ _ _ h => h) (Or.inl ⟨by rfl, ?hy3⟩) (by assumption) ?rest3
              case hy3 => intro w hSw; (try dsimp only at hSw); go_simp; first | done | with_reducible rfl
              simp only [Act.put, List.setIfInBounds_toArray, List.set_cons_zero, List.set_cons_succ]
              refine wpAnyH_take (i := 4) (oi := { dst := some 30, op := _, type := _, pos := _, after := _, guard := _ }) (v := ?v4) rfl (by kernel_rfl) (by kernel_rfl) (by kernel_rfl) (fun _ _ _ h => h) (Or.inl ⟨by rfl, ?hy4⟩) (by assumption) ?rest4
              case hy4 => intro w hSw; (try dsimp only at hSw); go_simp; first | done | with_reducible rfl
              simp only [Act.put, List.setIfInBounds_toArray, List.set_cons_zero, List.set_cons_succ]
              refine wpAnyH_take (i := 6) (oi := { dst := some 32, op := _, type := _, pos := _, after := _, guard := _ }) (v := ?v6) rfl (by kernel_rfl) (by kernel_rfl) (by kernel_rfl) (fun _ _ _ h => h) (Or.inl ⟨by rfl, ?hy6⟩) (by assumption) ?rest6
              case hy6 => intro w hSw; (try dsimp only at hSw); go_simp; first | done | with_reducible rfl
              simp only [Act.put, List.setIfInBounds_toArray, List.set_cons_zero, List.set_cons_succ]
              refine wpAnyH_take (i := 7) (oi := { dst := some 33, op := _, type := _, pos := _, after := _, guard := _ }) (v := ?v7) rfl (by kernel_rfl) (by kernel_rfl) (by kernel_rfl) (fun _ _ _ h => h) (Or.inl ⟨by rfl, ?hy7⟩) (by assumption) ?rest7
              case hy7 => intro w hSw; (try dsimp only at hSw); go_simp; first | done | with_reducible rfl
              simp only [Act.put, List.setIfInBounds_toArray, List.set_cons_zero, List.set_cons_succ]
              refine wpAnyH_take (i := 8) (oi := { dst := some 34, op := _, type := _, pos := _, after := _, guard := _ }) (v := ?v8) rfl (by kernel_rfl) (by kernel_rfl) (by kernel_rfl) (fun _ _ _ h => h) (Or.inl ⟨by rfl, ?hy8⟩) (by assumption) ?rest8
              case hy8 => intro w hSw; (try dsimp only at hSw); go_simp; first | done | with_reducible rfl
              simp only [Act.put, List.setIfInBounds_toArray, List.set_cons_zero, List.set_cons_succ]
              refine wpAnyH_take (i := 9) (oi := { dst := some 35, op := _, type := _, pos := _, after := _, guard := _ }) (v := ?v9) rfl (by kernel_rfl) (by kernel_rfl) (by kernel_rfl) (fun _ _ _ h => h) (Or.inl ⟨by rfl, ?hy9⟩) (by assumption) ?rest9
              case hy9 => intro w hSw; (try dsimp only at hSw); go_simp; first | done | with_reducible rfl
              simp only [Act.put, List.setIfInBounds_toArray, List.set_cons_zero, List.set_cons_succ]
              refine wpAnyH_take (i := 10) (oi := { dst := some 36, op := _, type := _, pos := _, after := _, guard := _ }) (v := ?v10) rfl (by kernel_rfl) (by kernel_rfl) (by kernel_rfl) (fun _ _ _ h => h) (Or.inl ⟨by rfl, ?hy10⟩) (by assumption) ?rest10
              case hy10 => intro w hSw; (try dsimp only at hSw); go_simp; first | done | with_reducible rfl
              simp only [Act.put, List.setIfInBounds_toArray, List.set_cons_zero, List.set_cons_succ]
              refine wpAnyH_take (i := 11) (oi := { dst := some 37, op := _, type := _, pos := _, after := _, guard := _ }) (v := ?v11) rfl (by kernel_rfl) (by kernel_rfl) (by kernel_rfl) (fun _ _ _ h => h) (Or.inl ⟨by rfl, ?hy11⟩) (by assumption) ?rest11
              case hy11 => intro w hSw; (try dsimp only at hSw); go_simp; first | done | with_reducible rfl
              simp only [Act.put, List.setIfInBounds_toArray, List.set_cons_zero, List.set_cons_succ]
              refine wpAnyH_take (i := 12) (oi := { dst := some 38, op := _, type := _, pos := _, after := _, guard := _ }) (v := ?v12) rfl (by kernel_rfl) (by kernel_rfl) (by kernel_rfl) (fun _ _ _ h => h) (Or.inl ⟨by rfl, ?hy12⟩) (by assumption) ?rest12
              case hy12 => intro w hSw; (try dsimp only at hSw); go_simp; first | done | with_reducible rfl
              simp only [Act.put, List.setIfInBounds_toArray, List.set_cons_zero, List.set_cons_succ]
              refine wpAnyH_take (i := 13) (oi := { dst := some 39, op := _, type := _, pos := _, after := _, guard := _ }) (v := ?v13) rfl (by kernel_rfl) (by kernel_rfl) (by kernel_rfl) (fun _ _ _ h => h) (Or.inl ⟨by rfl, ?hy13⟩) (by assumption) ?rest13
              case hy13 => intro w hSw; (try dsimp only at hSw); go_simp; first | done | with_reducible rfl
              simp only [Act.put, List.setIfInBounds_toArray, List.set_cons_zero, List.set_cons_succ]
              refine wpAnyH_take (i := 14) (oi := { dst := some 40, op := _, type := _, pos := _, after := _, guard := _ }) (v := ?v14) rfl (by kernel_rfl) (by kernel_rfl) (by kernel_rfl) (fun _ _ _ h => h) (Or.inl ⟨by rfl, ?hy14⟩) (by assumption) ?rest14
              case hy14 => intro w hSw; (try dsimp only at hSw); go_simp; first | done | with_reducible rfl
              simp only [Act.put, List.setIfInBounds_toArray, List.set_cons_zero, List.set_cons_succ]
              refine wpAnyH_take (i := 15) (oi := { dst := some 41, op := _, type := _, pos := _, after := _, guard := _ }) (v := ?v15) rfl (by kernel_rfl) (by kernel_rfl) (by kernel_rfl) (fun _ _ _ h => h) (Or.inl ⟨by rfl, ?hy15⟩) (by assumption) ?rest15
              case hy15 => intro w hSw; (try dsimp only at hSw); go_simp; first | done | with_reducible rfl
              simp only [Act.put, List.setIfInBounds_toArray, List.set_cons_zero, List.set_cons_succ]
              have kod : wr.drew.cell? ⟨w1.heap.size, i, none⟩ = some (.int .u64 (s0 : Int)) := HKO.out
              refine wpAnyH_ready (rs := [5, 16]) (by kernel_rfl) (by simp) ?_
              refine AllReadyH.cons rfl (fun K hK => ?_) (AllReadyH.cons rfl (fun K hK => ?_) AllReadyH.nil)
              · go_simp
                refine hK.out _ _ ?_ (fun hHeld => ?_)
                · first | with_reducible exact HK.out _ Br | with_reducible exact HK.out _ Br.drew | exact HKS.out _ _ Br
                clear hK K
                try simp only [Act.put, List.setIfInBounds_toArray, List.set_cons_zero, List.set_cons_succ]
                refine wpAnyH_ready (rs := [16]) (by kernel_rfl) (by simp) ?_
                refine AllReadyH.cons rfl (fun K hK => ?_) AllReadyH.nil
                go_simp
                go_at_call 59
                refine (HA1.out _).mono ?_
                rintro e v4 ⟨rfl, bz⟩
                replace Br : Below wr.heap.size wr v4 := below_both Br.drew bz
                clear bz
                refine hK.out _ _ ?_ (fun hHeld => ?_)
                · first | with_reducible exact HK.out _ Br | with_reducible exact HK.out _ Br.drew | exact HKS.out _ _ Br
                clear hK K
                try simp only [Act.put, List.setIfInBounds_toArray, List.set_cons_zero, List.set_cons_succ]
                refine wpAnyH_ready (rs := [17]) (by kernel_rfl) (by simp) ?_
                refine AllReadyH.cons rfl (fun K hK => ?_) AllReadyH.nil
                go_simp
                go_at_call 85
                refine (HP1.out _).mono ?_
                rintro e v5 ⟨rfl, bz⟩
                replace Br : Below wr.heap.size wr v5 := below_both Br bz
                clear bz
                refine hK.out _ _ ?_ (fun hHeld => ?_)
                · first | with_reducible exact HK.out _ Br | with_reducible exact HK.out _ Br.drew | exact HKS.out _ _ Br
                clear hK K
                try simp only [Act.put, List.setIfInBounds_toArray, List.set_cons_zero, List.set_cons_succ]
                refine wpAnyH_take (i := 18) (oi := { dst := some 44, op := _, type := _, pos := _, after := _, guard := _ }) (v := ?v18) rfl (by kernel_rfl) (by kernel_rfl) (by kernel_rfl) (fun _ _ _ h => h) (Or.inl ⟨by rfl, ?hy18⟩) (by assumption) ?rest18
                case hy18 => intro w hSw; (try dsimp only at hSw); go_simp; first | done | with_reducible rfl
                simp only [Act.put, List.setIfInBounds_toArray, List.set_cons_zero, List.set_cons_succ]
                have ko5 := (Br.cell (p := ⟨w1.heap.size, i, none⟩) HGR.out.2.2).trans HKO.out
                have ho5 := ho.below Br
                have kf5 := ho5.frozen i
                refine wpAnyH_ready (rs := [19]) (by kernel_rfl) (by simp) ?_
                refine AllReadyH.cons rfl (fun K hK => ?_) AllReadyH.nil
                go_simp
                refine hK.out _ _ ?_ (fun hHeld => ?_)
                · first | with_reducible exact HK.out _ Br | with_reducible exact HK.out _ Br.drew | exact HKS.out _ _ Br
                clear hK K
                try simp only [Act.put, List.setIfInBounds_toArray, List.set_cons_zero, List.set_cons_succ]
                refine wpAnyH_done (by kernel_rfl) ?_ _
                have ho6 := ho5.set i (s1 : Int)
                rw [← HS1.out] at ho6
                have hB6 := (hB5.trans (Br.mono hB5.size)).setCell (p := ⟨w1.heap.size, i, none⟩) (Nat.le_refl _) (.int .u64 (s1 : Int))
                clear c1 c2 ka ko kf ko5 kf5
                go_wp2
                exact ⟨⟨j + 1, by omega, by simp, ho6, hB6⟩, by simp [intOf]; omega⟩
              · go_simp
                go_at_call 59
                refine (HA1.out _).mono ?_
                rintro e v4 ⟨rfl, bz⟩
                replace Br : Below wr.heap.size wr v4 := below_both Br.drew bz
                clear bz
                refine hK.out _ _ ?_ (fun hHeld => ?_)
                · first | with_reducible exact HK.out _ Br | with_reducible exact HK.out _ Br.drew | exact HKS.out _ _ Br
                clear hK K
                try simp only [Act.put, List.setIfInBounds_toArray, List.set_cons_zero, List.set_cons_succ]
                have ko4 := (Br.cell (p := ⟨w1.heap.size, i, none⟩) HGR.out.2.2).trans HKO.out
                refine wpAnyH_ready (rs := [5]) (by kernel_rfl) (by simp) ?_
                refine AllReadyH.cons rfl (fun K hK => ?_) AllReadyH.nil
                go_simp
                refine hK.out _ _ ?_ (fun hHeld => ?_)
                · first | with_reducible exact HK.out _ Br | with_reducible exact HK.out _ Br.drew | exact HKS.out _ _ Br
                clear hK K
                try simp only [Act.put, List.setIfInBounds_toArray, List.set_cons_zero, List.set_cons_succ]
                refine wpAnyH_ready (rs := [17]) (by kernel_rfl) (by simp) ?_
                refine AllReadyH.cons rfl (fun K hK => ?_) AllReadyH.nil
                go_simp
                go_at_call 85
                refine (HP1.out _).mono ?_
                rintro e v5 ⟨rfl, bz⟩
                replace Br : Below wr.heap.size wr v5 := below_both Br bz
                clear bz
                refine hK.out _ _ ?_ (fun hHeld => ?_)
                · first | with_reducible exact HK.out _ Br | with_reducible exact HK.out _ Br.drew | exact HKS.out _ _ Br
                clear hK K
                try simp only [Act.put, List.setIfInBounds_toArray, List.set_cons_zero, List.set_cons_succ]
                refine wpAnyH_take (i := 18) (oi := { dst := some 44, op := _, type := _, pos := _, after := _, guard := _ }) (v := ?v18b) rfl (by kernel_rfl) (by kernel_rfl) (by kernel_rfl) (fun _ _ _ h => h) (Or.inl ⟨by rfl, ?hy18b⟩) (by assumption) ?rest18b
                case hy18b => intro w hSw; (try dsimp only at hSw); go_simp; first | done | with_reducible rfl
                simp only [Act.put, List.setIfInBounds_toArray, List.set_cons_zero, List.set_cons_succ]
                have ko5 := (Br.cell (p := ⟨w1.heap.size, i, none⟩) HGR.out.2.2).trans HKO.out
                have ho5 := ho.below Br
                have kf5 := ho5.frozen i
                refine wpAnyH_ready (rs := [19]) (by kernel_rfl) (by simp) ?_
                refine AllReadyH.cons rfl (fun K hK => ?_) AllReadyH.nil
                go_simp
                refine hK.out _ _ ?_ (fun hHeld => ?_)
                · first | with_reducible exact HK.out _ Br | with_reducible exact HK.out _ Br.drew | exact HKS.out _ _ Br
                clear hK K
                try simp only [Act.put, List.setIfInBounds_toArray, List.set_cons_zero, List.set_cons_succ]
                refine wpAnyH_done (by kernel_rfl) ?_ _
                have ho6 := ho5.set i (s1 : Int)
                rw [← HS1.out] at ho6
                have hB6 := (hB5.trans (Br.mono hB5.size)).setCell (p := ⟨w1.heap.size, i, none⟩) (Nat.le_refl _) (.int .u64 (s1 : Int))
                clear c1 c2 ka ko kf ko5 kf5
                go_wp2
                exact ⟨⟨j + 1, by omega, by simp, ho6, hB6⟩, by simp [intOf]; omega⟩
          · obtain rfl : j = c := by omega
            have HSE1 := HSE.out i hlt
            rw [HSE1] at ho
            clear hjl HSE1
            go_wp2
            exact ⟨⟨i + 1, by omega, by simp, ho, hB5⟩, by simp [intOf]; omega⟩
      · obtain rfl : i = r := by omega
        clear hlt
        have hAr := (new_zn.2 (ho.new (Nat.lt_of_lt_of_le hpos (below_both B hB).size))).arg
        have HM := fcmp_max hAr HFI.out.2 (by rw [rowV_length]; omega)
        rw [rowV_length, HFI.out.1] at HM
        have HMH := Lib.hid HM
        clear HM hAr ho
        go_wp2_with fail
        refine HMH.out.mono ?_
        rintro e w2 ⟨rfl, b2⟩
        go_wp2_with fail
        refine (HTD.out _).mono ?_
        rintro e w3 ⟨rfl, rfl⟩
        go_wp2
        go_ret2
        exact ⟨rfl, below_both B (below_both hB b2)⟩
  · obtain ⟨e1, e2⟩ := hN h
    have d : (finM R C m xs != 0) = true := bne_iff_ne.2 h
    rw [e1, e2]
    generalize finM R C m xs = F at *
    clear h e1 e2 hN hmx hA hx
    go_enter Try.func43, Try.ntmps43
    go_wp2_with fail
    generalize w.alloc (.cells #[.int .i64 R, .int .i64 C, .slice a m cap] 24) = W0 at *
    refine (HF.out _ B).mono ?_
    rintro e w1 ⟨rfl, b1⟩
    go_wp2
    go_ret2
    exact ⟨rfl, below_both B b1⟩
end Go.Proofs.Ytjiilechfjkkfaa
