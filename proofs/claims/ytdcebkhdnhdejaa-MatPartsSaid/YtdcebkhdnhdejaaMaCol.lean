/- mat: Gemv. -/
import Derived.Test.YtdcebkhdnhdejaaMaTl
import Derived.Test.YtdcebkhdnhdejaaVeAxpy
import Derived.Laws.CopyOwn
import Derived.Deep.RegionHeld3
namespace Go.Proofs.Ytdcebkhdnhdejaa
open Go.RowKit Go.Shelf
theorem chk_row {xs : List Nat} {C i : Nat} (hf : finB xs xs.length = true) (h : i * C + C ≤ xs.length) (hC : C ≤ 64) : chkV (partW xs (i * C) C) = 0 := by
  refine chkV_ok.2 ⟨by rw [partW_length]; exact hC, finB_iff.2 fun j hj => ?_⟩
  rw [partW_length] at hj
  rw [partW_at hj]
  exact finB_iff.1 hf _ (by omega)
/-- one row by a column -/
def rowD (C : Nat) (xs vs : List Nat) (i : Nat) : Nat := dotV (partW xs (i * C) C) vs C
theorem dot_row {xs vs : List Nat} {C i : Nat} (hf : finB xs xs.length = true) (h : i * C + C ≤ xs.length) (hC : C ≤ 64) :
    dotE (partW xs (i * C) C) vs = (if firstE 0 (chkV vs) (if vs.length ≠ C then 11 else 0) ≠ 0 then firstE 0 (chkV vs) (if vs.length ≠ C then 11 else 0) else if cls (rowD C xs vs i) ≤ 1 then 0 else 13) ∧
    (firstE 0 (chkV vs) (if vs.length ≠ C then 11 else 0) = 0 → cls (rowD C xs vs i) ≤ 1 → dotR (partW xs (i * C) C) vs = rowD C xs vs i) := by
  have hl := partW_length xs (i * C) C
  have hb : bothV (partW xs (i * C) C) vs 0 = firstE 0 (chkV vs) (if vs.length ≠ C then 11 else 0) := by
    unfold bothV firstE
    simp only [chk_row hf h hC, hl]
    by_cases z : chkV vs = 0
    · by_cases q : vs.length = C
      · simp [z, q]
      · simp [z, q, show ¬ C = vs.length from fun e => q e.symm]
    · simp [z]
  have he : dotE (partW xs (i * C) C) vs = (if firstE 0 (chkV vs) (if vs.length ≠ C then 11 else 0) ≠ 0 then firstE 0 (chkV vs) (if vs.length ≠ C then 11 else 0) else if cls (rowD C xs vs i) ≤ 1 then 0 else 13) := by
    unfold dotE
    rw [hb, hl]
    unfold rowD
    first | done | rfl
  refine ⟨he, fun h0 h1 => ?_⟩
  have he0 : dotE (partW xs (i * C) C) vs = 0 := by rw [he, if_neg (not_not_intro h0), if_pos h1]
  unfold dotR
  rw [if_pos he0, hl]
  rfl
/-- the rows of a matrix by a column -/
def gemV (R C : Nat) (xs vs : List Nat) : List Nat := rowV R (rowD C xs vs)
def gemF (f : Int) (vs : List Nat) (C : Int) : Int := firstE f (chkV vs) (if (vs.length : Int) ≠ C then 11 else 0)
set_option maxRecDepth 100000 in
set_option maxHeartbeats 8000000 in
theorem mat_gemv {R C : Int} {a vb : Option Addr} {m n cap capv : Nat} {xs vs : List Nat} {w : World} (hA : Arg w (.slice a m cap) xs) (hV : Arg w (.slice vb n capv) vs) (hx : Low 18446744073709551616 xs) (hv : Low 18446744073709551616 vs) (hvn : vs.length ≤ 17592186044416) :
    Calls Try.prog 27 #[.agg #[.int .i64 R, .int .i64 C, .slice a m cap], .slice vb n capv] w fun e W' => ∃ b n2 c2, e = .returned (.tuple #[.slice b n2 c2, .int .i64 (tellV (gemV R.toNat C.toNat xs vs) (gemF (finM R C m xs) vs C))]) ∧ New w.heap.size W' (.slice b n2 c2) (if tellV (gemV R.toNat C.toNat xs vs) (gemF (finM R C m xs) vs C) = 0 then gemV R.toNat C.toNat xs vs else []) ∧ Below w.heap.size w W' := by
  have hpos : 0 < w.heap.size := by obtain ⟨S, hS, _⟩ := hA; omega
  obtain ⟨B, G⟩ := mbox w #[.int .i64 R, .int .i64 C, .slice a m cap] 24 _ rfl
  have hmx : m = xs.length := by
    obtain ⟨a', c', e⟩ := hA.slice
    simp only [Value.slice.injEq] at e
    omega
  have HF := Lib.hid (fun (W : World) (h : Below w.heap.size w W) => shape_finite (R := R) (C := C) (hA.behind h) hx)
  have c0 := G.cell (i := 0) rfl
  have c1 := G.cell (i := 1) rfl
  have c2 := G.cell (i := 2) rfl
  by_cases hf : finM R C m xs = 0
  · have hm := (finM_ok hf).1
    obtain ⟨q1, q2, q3, q4, q5⟩ := mayM_iff.1 hm
    obtain ⟨r, rfl⟩ : ∃ r : Nat, R = r := ⟨R.toNat, by omega⟩
    obtain ⟨c, rfl⟩ : ∃ r : Nat, C = r := ⟨C.toNat, by omega⟩
    have hmn : m = r * c := by rw [← Int.natCast_mul] at q5; omega
    have hrc : r * c ≤ 4096 := by have := Nat.mul_le_mul (show r ≤ 64 by omega) (show c ≤ 64 by omega); omega
    have hfx : finB xs xs.length = true := by
      have hf2 := hf
      rw [hmx] at hf2 hm
      rw [finM_may hm] at hf2
      cases h : finB xs xs.length
      · rw [h] at hf2; exact absurd hf2 (by decide)
      · rfl
    have hFe : gemF (finM r c m xs) vs c = firstE 0 (chkV vs) (if vs.length ≠ c then 11 else 0) := by
      unfold gemF
      rw [hf]
      by_cases q : vs.length = c
      · rw [if_neg (by simp [q]), if_neg (by simp [q])]
      · rw [if_pos (by omega), if_pos q]
    rw [hf] at HF
    rw [hFe, Int.toNat_natCast, Int.toNat_natCast]
    have hix : ∀ i, i < r → i * c + c ≤ r * c := fun i hi => by
      have := Nat.mul_le_mul_right c (show i + 1 ≤ r from hi)
      rwa [Nat.add_mul, Nat.one_mul] at this
    obtain ⟨F, hF⟩ : ∃ F, F = firstE 0 (chkV vs) (if vs.length ≠ c then 11 else 0) := ⟨_, rfl⟩
    have HDE : Hid (∀ i, i < r → dotE (partW xs (i * c) c) vs = (if F ≠ 0 then F else if cls (rowD c xs vs i) ≤ 1 then 0 else 13) ∧ (F = 0 → cls (rowD c xs vs i) ≤ 1 → dotR (partW xs (i * c) c) vs = rowD c xs vs i)) := Lib.hid (fun i hi => by
      rw [hF]
      exact dot_row hfx (by rw [← hmx, hmn]; exact hix i hi) (by omega))
    rw [← hF]
    clear hF
    obtain ⟨E, hE⟩ : ∃ E, E = tellV (gemV r c xs vs) F := ⟨_, rfl⟩
    rw [← hE]
    obtain ⟨Z, hZ⟩ : ∃ Z, Z = if E = 0 then gemV r c xs vs else [] := ⟨_, rfl⟩
    rw [← hZ]
    have HE1 : Hid (F ≠ 0 → E = F ∧ Z = []) := Lib.hid (fun h => by
      have : E = F := by rw [hE]; unfold tellV; rw [if_pos h]
      exact ⟨this, by rw [hZ, if_neg (by rw [this]; exact h)]⟩)
    have HE2 : Hid (F = 0 → ∀ i, i < r → ¬ cls (rowD c xs vs i) ≤ 1 → E = 13 ∧ Z = []) := Lib.hid (fun h i hi hc => by
      have : E = 13 := by
        rw [hE, h, tellV_yes, finB_not (j := i) (by unfold gemV; rw [rowV_length]; exact hi) (by unfold gemV; rw [rowV_lim _ hi]; omega), if_neg (by decide)]
      exact ⟨this, by rw [hZ, if_neg (by rw [this]; decide)]⟩)
    have HE3 : Hid (F = 0 → (∀ i, i < r → cls (rowD c xs vs i) ≤ 1) → E = 0 ∧ Z = gemV r c xs vs) := Lib.hid (fun h hc => by
      have : E = 0 := by
        rw [hE, h, tellV_yes, finB_iff.2 (fun j hj => by
          unfold gemV at hj ⊢
          rw [rowV_length] at hj
          rw [rowV_lim _ hj]; exact hc j hj), if_pos rfl]
      exact ⟨this, by rw [hZ, if_pos this]⟩)
    have HUP : Hid (upd (rowD c xs vs) (List.replicate r 0) r = gemV r c xs vs) := Lib.hid (by
      have := upd_all (rowD c xs vs) (List.replicate r 0)
      rw [List.length_replicate] at this
      rw [this]; rfl)
    have HZ0 : Hid ((List.replicate r 0 : List Int) = zn (upd (rowD c xs vs) (List.replicate r 0) 0)) := Lib.hid (by rw [upd_zero]; simp [zn])
    have HDT := Lib.hid (fun (i : Nat) (W : World) (h : Below w.heap.size w W) (b : Option Addr) (cc : Nat) (hr : Arg W (.slice b c cc) (partW xs (i * c) c)) => vec_dot hr (hV.behind h) (by
      intro y hy
      unfold partW at hy
      obtain ⟨k, _, rfl⟩ := List.mem_map.1 hy
      exact lim_lt hx (by decide) _) hv (by rw [partW_length]; omega) hvn)
    obtain ⟨S, hS, hR⟩ := hA
    obtain ⟨sa, sc, es, hcap, hof⟩ := hR.slice
    simp only [Value.slice.injEq] at es
    obtain ⟨rfl, -, rfl⟩ := es
    obtain ⟨off, rfl⟩ := hof (by rw [← hmx, hmn]; exact Nat.mul_pos (by omega) (by omega))
    rw [← hmx] at hcap
    have HA : Hid (Arg w (.slice (some ⟨S, off, none⟩) m cap) xs) := Lib.hid ⟨S, hS, hR⟩
    have HRW := Lib.hid (fun (i : Nat) (w : World) (hi : i < r) => mat_row (S := S) (off := off) (m := m) (cap := cap) (C := c) (i := i) (R := (r : Int)) (w := w) (by omega) (by omega) (by omega) (by rw [hmn]; exact hix i hi) hcap)
    have HPT := Lib.hid (fun (i : Nat) (W : World) (h : Below w.heap.size w W) (hi : i < r) => (HA.out.behind h).part (o := i * c) (k := c) (cap' := cap - i * c) (by rw [← hmx, hmn]; exact hix i hi) (by have := hix i hi; omega))
    have hmk := makeN_u64 r (by omega)
    have HOWN := Lib.hid (fun W => OwnK.full .u64 32 W r (by omega))
    have hr63 : (r : Int) ≤ 64 := by omega
    have hr1 : 1 ≤ r := by omega
    clear hm q1 q2 q3 q4 q5 hmn hrc hfx hFe hix hE hZ hmx hx hv hV hR hof hcap hf
    go_enter Try.func27, Try.ntmps27
    go_wp2_with fail
    generalize w.alloc (.cells #[.int .i64 (r : Int), .int .i64 (c : Int), .slice (some ⟨S, off, none⟩) m cap] 24) = W0 at *
    refine (HF.out _ B).mono ?_
    rintro e w1 ⟨rfl, b1⟩
    replace B := below_both B b1
    replace G := G.behind b1
    clear HF b1
    have c0 := G.cell (i := 0) rfl
    have c1 := G.cell (i := 1) rfl
    have c2 := G.cell (i := 2) rfl
    have hm1 := hmk w1
    have ho1 := HOWN.out w1
    rw [HZ0.out] at ho1
    have hB1 := bel_new w1 (.cells (madeCells #[.int .u64 0] r) 32)
    clear hmk HOWN HZ0
    go_wp2
    clear hm1
    generalize hW2 : w1.alloc (.cells (madeCells #[.int .u64 0] r) 32) = w2 at *
    clear hW2 c0 c1 c2
    have HG := Lib.hid G
    have HB := Lib.hid B
    clear G B
    go_loopw [21] (fun i wr => ∃ k : Nat, k ≤ r ∧ i = .int .i64 k ∧ OwnK .u64 32 w1.heap.size wr (.slice (some ⟨w1.heap.size, 0, none⟩) r r) (zn (upd (rowD c xs vs) (List.replicate r 0) k)) ∧ Below w1.heap.size w1 wr ∧ Hid (1 ≤ k → F = 0) ∧ Hid (∀ j, j < k → cls (rowD c xs vs j) ≤ 1)) (fun i _ => r - (intOf i).toNat)
    case atStart => exact ⟨0, Nat.zero_le _, rfl, ho1, hB1, Lib.hid (fun h => absurd h (by decide)), Lib.hid (fun j h => absurd h (Nat.not_lt_zero _))⟩
    case round =>
      obtain ⟨k, hk, rfl, ho, hB, HF0, HQ⟩ := hrel
      by_cases hlt : k < r
      · have hG := HG.out.behind hB
        have c0 : wr.cell? ⟨w.heap.size, 0, none⟩ = some (.int .i64 (r : Int)) := hG.cell (i := 0) rfl
        have c1 : wr.cell? ⟨w.heap.size, 1, none⟩ = some (.int .i64 (c : Int)) := hG.cell (i := 1) rfl
        have c2 : wr.cell? ⟨w.heap.size, 2, none⟩ = some (.slice (some ⟨S, off, none⟩) m cap) := hG.cell (i := 2) rfl
        have hrw := HRW.out k wr hlt
        obtain ⟨e1, e2⟩ := HDE.out k hlt
        have HX1 := Lib.hid e1
        have HX2 := Lib.hid e2
        have HY2 := Lib.hid (fun h => HE2.out h k hlt)
        have hkr : (k : Int) < (r : Int) := by omega
        clear e1 e2 hG
        go_wp2_with fail
        refine hrw.mono ?_
        rintro e w3 ⟨rfl, b3⟩
        have hB3 := below_both hB b3
        have hpt := HPT.out k w3 (below_both HB.out hB3) hlt
        have hdt := HDT.out k w3 (below_both HB.out hB3) _ _ hpt
        have ho3 := ho.below b3
        clear hrw b3 hpt c0 c1 c2 ho hB
        generalize dotE (partW xs (k * c) c) vs = de at *
        generalize dotR (partW xs (k * c) c) vs = dr at *
        go_wp2_with fail
        refine hdt.mono ?_
        rintro e w4 ⟨rfl, b4⟩
        have hB4 := below_both hB3 b4
        have ho4 := ho3.below b4
        have HBB := Lib.hid (below_both HB.out hB4)
        clear hdt b4 ho3 hB3
        by_cases hF : F = 0
        · by_cases hc : cls (rowD c xs vs k) ≤ 1
          · have hde : de = 0 := by rw [HX1.out, if_neg (by simp [hF]), if_pos hc]
            have hdr : dr = rowD c xs vs k := HX2.out hF hc
            have HF2 := Lib.hid hF
            have HQ2 : Hid (∀ j, j < k + 1 → cls (rowD c xs vs j) ≤ 1) := Lib.hid (fun j hj => by
              rcases Nat.lt_or_ge j k with h | h
              · exact HQ.out j h
              · obtain rfl : j = k := by omega
                exact hc)
            have HS : Hid (zn (upd (rowD c xs vs) (List.replicate r 0) (k + 1)) = (zn (upd (rowD c xs vs) (List.replicate r 0) k)).set k (dr : Int)) := Lib.hid (by rw [upd_succ, zn_set, hdr])
            have ko := ho4.cell (j := k) (by rw [zn_length, upd_length, List.length_replicate]; exact hlt)
            have kf := ho4.frozen k
            have HO := Lib.hid (by have := ho4.set k (dr : Int); rw [← HS.out] at this; exact this : OwnK .u64 32 w1.heap.size (w4.setCell ⟨w1.heap.size, k, none⟩ (.int .u64 (dr : Int))) (.slice (some ⟨w1.heap.size, 0, none⟩) r r) (zn (upd (rowD c xs vs) (List.replicate r 0) (k + 1))))
            subst hde
            clear hdr hF hc HX1 HX2 HY2 HS ho4
            go_wp2
            exact ⟨⟨k + 1, by omega, by simp, HO.out, hB4.setCell (p := ⟨w1.heap.size, k, none⟩) (Nat.le_refl _) _, Lib.hid (fun _ => HF2.out), HQ2⟩, by simp [intOf]; omega⟩
          · have hde : de = 13 := by rw [HX1.out, if_neg (by simp [hF]), if_neg hc]
            have HT := Lib.hid (HY2.out hF hc)
            subst hde
            clear hF hc HX1 HX2 HY2 ho4
            go_wp2
            go_ret2
            exact ⟨none, 0, 0, by rw [HT.out.1]; rfl, by rw [HT.out.2]; exact new_nil _ hpos HBB.out, HBB.out⟩
        · have hde : de = F := by rw [HX1.out, if_pos hF]
          have HT := Lib.hid (HE1.out hF)
          have d : (F != 0) = true := bne_iff_ne.2 hF
          subst hde
          clear hF HX1 HX2 HY2 ho4
          go_wp2
          go_ret2
          exact ⟨none, 0, 0, by rw [HT.out.1]; rfl, by rw [HT.out.2]; exact new_nil _ hpos HBB.out, HBB.out⟩
      · obtain rfl : k = r := by omega
        have HT := Lib.hid (HE3.out (HF0.out hr1) HQ.out)
        have HBB := Lib.hid (below_both HB.out hB)
        have hsz := hB.size
        have hs1 := HB.out.size
        rw [HUP.out] at ho
        have HN := Lib.hid ((new_zn.2 (ho.new (by omega))).lower hs1)
        clear ho hlt hsz hs1
        go_wp2
        go_ret2
        exact ⟨_, _, _, by rw [HT.out.1]; rfl, by rw [HT.out.2]; exact HN.out, HBB.out⟩
  · have d : (finM R C m xs != 0) = true := bne_iff_ne.2 hf
    have hE : tellV (gemV R.toNat C.toNat xs vs) (gemF (finM R C m xs) vs C) = finM R C m xs := by
      unfold gemF firstE
      rw [if_pos hf]
      unfold tellV
      rw [if_pos hf]
    rw [hE, if_neg hf]
    generalize finM R C m xs = E at *
    clear hE hf hA hx hv hV hvn hmx
    go_enter Try.func27, Try.ntmps27
    go_wp2_with fail
    generalize w.alloc (.cells #[.int .i64 R, .int .i64 C, .slice a m cap] 24) = W0 at *
    refine (HF.out _ B).mono ?_
    rintro e w1 ⟨rfl, b1⟩
    have HBB := Lib.hid (below_both B b1)
    go_wp2
    go_ret2
    exact ⟨none, 0, 0, rfl, new_nil _ hpos HBB.out, HBB.out⟩
end Go.Proofs.Ytdcebkhdnhdejaa

/- mat: Ger, where there is none. -/
namespace Go.Proofs.Ytdcebkhdnhdejaa
open Go.RowKit Go.Shelf
def gerF (f ex ey : Int) (q : Bool) : Int := if f ≠ 0 then f else if ex ≠ 0 then ex else if ey ≠ 0 then ey else if q then 0 else 11
/-- the lengths of a column and of a row go with the sides -/
def gers (R C : Int) (m n : Nat) : Bool := (m : Int) == R && (n : Int) == C
set_option maxRecDepth 100000 in
set_option maxHeartbeats 8000000 in
theorem mat_ger_no {R C : Int} {a vb ub : Option Addr} {m n l cap capv capu : Nat} {xs vs us : List Nat} {w : World} (hA : Arg w (.slice a m cap) xs) (hV : Arg w (.slice vb n capv) vs) (hU : Arg w (.slice ub l capu) us) (hx : Low 18446744073709551616 xs) (hv : Low 18446744073709551616 vs) (hu : Low 18446744073709551616 us) (hvn : vs.length ≤ 17592186044416) (hun : us.length ≤ 17592186044416)
    (hF : gerF (finM R C m xs) (chkV vs) (chkV us) (gers R C n l) ≠ 0) :
    Calls Try.prog 28 #[.agg #[.int .i64 R, .int .i64 C, .slice a m cap], .slice vb n capv, .slice ub l capu] w fun e W' => e = .returned (.tuple #[.agg #[.int .i64 0, .int .i64 0, .slice none 0 0], .int .i64 (gerF (finM R C m xs) (chkV vs) (chkV us) (gers R C n l))]) ∧ Below w.heap.size w W' := by
  have hnv : n = vs.length := by
    obtain ⟨a', c', e⟩ := hV.slice
    simp only [Value.slice.injEq] at e
    omega
  have hlu : l = us.length := by
    obtain ⟨a', c', e⟩ := hU.slice
    simp only [Value.slice.injEq] at e
    omega
  have HF := Lib.hid (fun (W : World) (h : Below w.heap.size w W) => shape_finite (R := R) (C := C) (hA.behind h) hx)
  have H1 := Lib.hid (fun (W : World) (h : Below w.heap.size w W) => vec_check (hV.behind h) hv hvn)
  have H2 := Lib.hid (fun (W : World) (h : Below w.heap.size w W) => vec_check (hU.behind h) hu hun)
  obtain ⟨B0, G1, G2, hw1⟩ := vboxm w #[.int .i64 R, .int .i64 C, .slice a m cap] #[.int .i64 0, .int .i64 0, .slice none 0 0] 24 24 _ rfl
  have x0 : ∀ w : World, (Instr.index 90 (.agg #[.slice vb n capv, .slice ub l capu]) (.int .i64 0)).run Try.prog w = .ok (.slice vb n capv) w := fun _ => by kernel_rfl
  have x1 : ∀ w : World, (Instr.index 90 (.agg #[.slice vb n capv, .slice ub l capu]) (.int .i64 1)).run Try.prog w = .ok (.slice ub l capu) w := fun _ => by kernel_rfl
  have c0 := G1.cell (i := 0) rfl
  have c1 := G1.cell (i := 1) rfl
  have c2 := G1.cell (i := 2) rfl
  have HNE := Lib.hid hF
  generalize finM R C m xs = f at *
  generalize chkV vs = ex at *
  generalize chkV us = ey at *
  obtain ⟨E, hE⟩ : ∃ E, E = gerF f ex ey (gers R C n l) := ⟨_, rfl⟩
  rw [← hE] at HNE ⊢
  have HE := Lib.hid hE
  clear hE hF hnv hlu hA hV hU hx hv hu hvn hun hw1
  by_cases hf : f = 0
  · have HE0 : Hid (E = if ex ≠ 0 then ex else if ey ≠ 0 then ey else if gers R C n l then 0 else 11) := Lib.hid (by rw [HE.out]; unfold gerF; rw [if_neg (not_not_intro hf)])
    have d : (f != 0) = false := by simp [hf]
    clear hf
    go_enter Try.func28, Try.ntmps28
    go_wp2_with fail
    generalize (w.alloc (.cells #[.int .i64 R, .int .i64 C, .slice a m cap] 24)).alloc (.cells #[.int .i64 0, .int .i64 0, .slice none 0 0] 24) = W0 at *
    refine (HF.out _ B0).mono ?_
    rintro e w1 ⟨rfl, b1⟩
    have B := below_both B0 b1
    replace G1 := G1.behind b1
    replace G2 := G2.behind b1
    clear HF b1 B0 c0 c1 c2
    go_wp2
    go_loopw [25] (fun i wr => ∃ (k : Nat) (z : Int), k ≤ 2 ∧ z = k ∧ i = .int .i64 z ∧ Hid (1 ≤ k → ex = 0) ∧ Hid (2 ≤ k → ey = 0) ∧ Below w1.heap.size w1 wr) (fun i _ => 2 - (intOf i).toNat)
    case atStart => exact ⟨0, 0, by omega, rfl, rfl, Lib.hid (fun h => absurd h (by decide)), Lib.hid (fun h => absurd h (by decide)), Below.refl _ _⟩
    case round =>
      obtain ⟨k, z, hk, hz, rfl, HE1, HE2, hB⟩ := hrel
      have hBw := below_both B hB
      rcases (show k = 0 ∨ k = 1 ∨ k = 2 by omega) with rfl | rfl | rfl
      · obtain rfl : z = 0 := hz
        by_cases he : ex = 0
        · have HX := Lib.hid he
          have d : (ex != 0) = false := by simp [he]
          clear he
          go_wp2_with fail
          refine (H1.out _ hBw).mono ?_
          rintro e w2 ⟨rfl, b2⟩
          go_wp2
          go_roundw
          case rel => exact ⟨1, 1, by omega, rfl, rfl, Lib.hid (fun _ => HX.out), Lib.hid (fun h => absurd h (by decide)), below_both hB b2⟩
          case measure => simp [intOf]
        · have d : (ex != 0) = true := bne_iff_ne.2 he
          have HT : Hid (E = ex) := Lib.hid (by rw [HE0.out, if_pos he])
          clear he
          go_wp2_with fail
          refine (H1.out _ hBw).mono ?_
          rintro e w2 ⟨rfl, b2⟩
          have hB2 := below_both hB b2
          have G4 := G2.behind hB2
          have g0 := G4.cell (i := 0) rfl
          have g1 := G4.cell (i := 1) rfl
          have g2 := G4.cell (i := 2) rfl
          have f0 := G4.f 0
          have f1 := G4.f 1
          have f2 := G4.f 2
          have HBB := Lib.hid (below_both B hB2)
          go_wp2
          exact bodyPost_ret (v := .tuple #[.agg #[.int .i64 0, .int .i64 0, .slice none 0 0], .int .i64 ex]) (by simp [results, Try.results28, go_sem, g0, g1, g2]) rfl
            ⟨by rw [HT.out], HBB.out.put3 (by omega) _ _ _⟩
      · obtain rfl : z = 1 := hz
        have hx0 := HE1.out (by omega)
        by_cases he : ey = 0
        · have HX := Lib.hid hx0
          have HY := Lib.hid he
          have d : (ey != 0) = false := by simp [he]
          clear he hx0
          go_wp2_with fail
          refine (H2.out _ hBw).mono ?_
          rintro e w2 ⟨rfl, b2⟩
          go_wp2
          go_roundw
          case rel => exact ⟨2, 2, by omega, rfl, rfl, Lib.hid (fun _ => HX.out), Lib.hid (fun _ => HY.out), below_both hB b2⟩
          case measure => simp [intOf]
        · have d : (ey != 0) = true := bne_iff_ne.2 he
          have HT : Hid (E = ey) := Lib.hid (by rw [HE0.out, if_neg (not_not_intro hx0), if_pos he])
          clear he hx0
          go_wp2_with fail
          refine (H2.out _ hBw).mono ?_
          rintro e w2 ⟨rfl, b2⟩
          have hB2 := below_both hB b2
          have G4 := G2.behind hB2
          have g0 := G4.cell (i := 0) rfl
          have g1 := G4.cell (i := 1) rfl
          have g2 := G4.cell (i := 2) rfl
          have f0 := G4.f 0
          have f1 := G4.f 1
          have f2 := G4.f 2
          have HBB := Lib.hid (below_both B hB2)
          go_wp2
          exact bodyPost_ret (v := .tuple #[.agg #[.int .i64 0, .int .i64 0, .slice none 0 0], .int .i64 ey]) (by simp [results, Try.results28, go_sem, g0, g1, g2]) rfl
            ⟨by rw [HT.out], HBB.out.put3 (by omega) _ _ _⟩
      · obtain rfl : z = 2 := hz
        have HQ : Hid (E = if gers R C n l then 0 else 11) := Lib.hid (by rw [HE0.out, if_neg (not_not_intro (HE1.out (by omega))), if_neg (not_not_intro (HE2.out (by omega)))])
        have hg : gers R C n l = false := by
          cases h : gers R C n l
          · rfl
          · have := HQ.out; rw [h, if_pos rfl] at this; exact absurd this HNE.out
        have HT : Hid (E = 11) := Lib.hid (by rw [HQ.out, hg]; rfl)
        have G5 := G1.behind hB
        have c0 := G5.cell (i := 0) rfl
        have c1 := G5.cell (i := 1) rfl
        have G4 := G2.behind hB
        have g0 := G4.cell (i := 0) rfl
        have g1 := G4.cell (i := 1) rfl
        have g2 := G4.cell (i := 2) rfl
        have f0 := G4.f 0
        have f1 := G4.f 1
        have f2 := G4.f 2
        have HBB := Lib.hid hBw
        unfold gers at hg
        by_cases hn : (n : Int) = R
        · have d1 : ((n : Int) != R) = false := by simp [hn]
          have d2 : ((l : Int) != C) = true := by
            rw [bne_iff_ne]
            intro e
            rw [beq_iff_eq.2 hn, beq_iff_eq.2 e] at hg
            cases hg
          clear hn hg HQ
          go_wp2
          exact bodyPost_ret (v := .tuple #[.agg #[.int .i64 0, .int .i64 0, .slice none 0 0], .int .i64 11]) (by simp [results, Try.results28, go_sem, g0, g1, g2]) rfl
            ⟨by rw [HT.out], HBB.out.put3 (by omega) _ _ _⟩
        · have d1 : ((n : Int) != R) = true := bne_iff_ne.2 hn
          clear hn hg HQ
          go_wp2
          exact bodyPost_ret (v := .tuple #[.agg #[.int .i64 0, .int .i64 0, .slice none 0 0], .int .i64 11]) (by simp [results, Try.results28, go_sem, g0, g1, g2]) rfl
            ⟨by rw [HT.out], HBB.out.put3 (by omega) _ _ _⟩
  · have HT : Hid (E = f) := Lib.hid (by rw [HE.out]; unfold gerF; rw [if_pos hf])
    have d : (f != 0) = true := bne_iff_ne.2 hf
    clear hf
    go_enter Try.func28, Try.ntmps28
    go_wp2_with fail
    generalize (w.alloc (.cells #[.int .i64 R, .int .i64 C, .slice a m cap] 24)).alloc (.cells #[.int .i64 0, .int .i64 0, .slice none 0 0] 24) = W0 at *
    refine (HF.out _ B0).mono ?_
    rintro e w1 ⟨rfl, b1⟩
    have G4 := G2.behind b1
    have g0 := G4.cell (i := 0) rfl
    have g1 := G4.cell (i := 1) rfl
    have g2 := G4.cell (i := 2) rfl
    have f0 := G4.f 0
    have f1 := G4.f 1
    have f2 := G4.f 2
    have HBB := Lib.hid (below_both B0 b1)
    go_wp2
    exact bodyPost_ret (v := .tuple #[.agg #[.int .i64 0, .int .i64 0, .slice none 0 0], .int .i64 f]) (by simp [results, Try.results28, go_sem, g0, g1, g2]) rfl
      ⟨by rw [HT.out], HBB.out.put3 (by omega) _ _ _⟩
/-- a column by a row, added to a matrix: one word -/
def gerG (C : Nat) (xs vs us : List Nat) (k : Nat) : Nat := plusU (lim xs k) (timesU (lim vs (k / C)) (lim us (k % C)))
/-- all words -/
def gerV (R C : Nat) (xs vs us : List Nat) : List Nat := rowV (R * C) (gerG C xs vs us)
theorem ger_axpy {C i : Nat} {xs vs us : List Nat} (hl : us.length = C) : axpyV (lim vs i) us (partW xs (i * C) C) = rowV C fun j => gerG C xs vs us (i * C + j) := by
  unfold axpyV
  rw [hl, partW_length, Nat.min_self]
  unfold rowV
  refine List.map_congr_left fun j hj => ?_
  rw [List.mem_range] at hj
  have e1 : (i * C + j) / C = i := by rw [Nat.mul_comm, Nat.mul_add_div (by omega), Nat.div_eq_of_lt hj, Nat.add_zero]
  have e2 : (i * C + j) % C = j := by rw [Nat.mul_comm, Nat.mul_add_mod, Nat.mod_eq_of_lt hj]
  unfold gerG
  rw [e1, e2, partW_at hj]
theorem ger_both {C i : Nat} {xs vs us : List Nat} (hv : chkV vs = 0) (hu : chkV us = 0) (hf : finB xs xs.length = true) (h : i * C + C ≤ xs.length) (hi : i < vs.length) (hl : us.length = C) : bothV us (partW xs (i * C) C) (nfE (lim vs i)) = 0 := by
  obtain ⟨h1, _⟩ := chkV_ok.1 hu
  have h2 := finB_iff.1 (chkV_ok.1 hv).2 i hi
  unfold bothV nfE
  rw [if_neg (not_not_intro hu), if_neg (not_not_intro (chk_row hf h (by omega)))]
  rw [hl, partW_length]
  simp only [ne_eq, not_true_eq_false, if_false]
  rw [if_neg (show ¬ 2 ≤ cls (lim vs i) by omega)]
  simp
/-- a row of them put in -/
theorem ger_put {C i : Nat} {xs vs us : List Nat} {k : Nat} (_h : i * C + C ≤ xs.length) (hk : k < xs.length) : lim (upd (gerG C xs vs us) xs ((i + 1) * C)) k = if i * C ≤ k ∧ k < i * C + C then gerG C xs vs us k else lim (upd (gerG C xs vs us) xs (i * C)) k := by
  rw [upd_at hk, upd_at hk, Nat.add_mul, Nat.one_mul]
  by_cases a : k < i * C
  · rw [if_pos (by omega), if_neg (by omega), if_pos a]
  · by_cases b : k < i * C + C
    · rw [if_pos b, if_pos ⟨by omega, b⟩]
    · rw [if_neg b, if_neg (by omega), if_neg a]
end Go.Proofs.Ytdcebkhdnhdejaa

/- copy into a part of a list that the call itself made. -/
namespace Go.Proofs.Ytdcebkhdnhdejaa
open Go.RowKit Go.Shelf
theorem take_splice {α : Type} (L cs : List α) (off n : Nat) (h : off + cs.length ≤ n) (hL : n ≤ L.length) : (L.take off ++ (cs ++ L.drop (off + cs.length))).take n = splice (L.take n) off cs := by
  unfold splice
  have h1 : (L.take off).length = off := by rw [List.length_take]; omega
  rw [List.take_append, h1, List.take_append, List.take_take, List.take_take, List.drop_take]
  rw [Nat.min_eq_right (by omega : off ≤ n), Nat.min_eq_left (by omega : off ≤ n), List.take_of_length_le (by omega : cs.length ≤ n - off)]
  rw [show n - off - cs.length = n - (off + cs.length) by omega]
theorem vals_splice (k : IntKind) (zs qs : List Int) (off : Nat) : valsK k (splice zs off qs) = splice (valsK k zs) off (valsK k qs) := by
  unfold splice valsK
  simp [List.map_take, List.map_drop]
theorem own_copy {ops : Array Oper} {rest : List Oper} {o : Oper} {a : Act} {Q : Exit → Act → World → Prop} {W : World} (hgd : o.guard = none) (d s : Operand)
    (ho : o.op = .call { callee := .builtin .copy, args := #[d, s], argTypes := #[22, 22] }) {b g n cap off len dcap sc : Nat} {zs qs : List Int} {ad : Addr} (hd : a.eval d = .slice (some ⟨g, off, none⟩) len dcap) (hs : a.eval s = .slice (some ad) qs.length sc)
    (hO : OwnK .u64 32 b W (.slice (some ⟨g, 0, none⟩) n cap) zs) (hl : len = qs.length) (hfit : off + qs.length ≤ zs.length) (hsrc : ∀ j v, (valsK .u64 qs)[j]? = some v → W.cell? (ad.add j) = some v)
    (h : ∀ w', OwnK .u64 32 b w' (.slice (some ⟨g, 0, none⟩) n cap) (splice zs off qs) → (∀ q, q ≠ g → w'.heap[q]? = W.heap[q]?) → w'.heap.size = W.heap.size → Below b W w' → wpList Try.prog ops Q rest (a.put o.dst (goInt qs.length)) w') :
    wpList Try.prog ops Q (o :: rest) a W := by
  have hO1 := hO
  unfold OwnK World.ownsRow at hO1
  obtain ⟨hz, hw⟩ := hO1
  rcases hw with ⟨e, _⟩ | ⟨g', cap', cur, e, hb, hg, hc1, hc2, hc3, hc4⟩
  · simp at e
  simp only [Value.slice.injEq, Option.some.injEq, Addr.mk.injEq, and_true] at e
  obtain ⟨rfl, rfl, rfl⟩ := e
  rw [Nat.mul_one] at hc3 hc4
  have hlen : (valsK .u64 qs).length = qs.length := valsK_length _ _
  have hcl : cur.toList.length = cur.size := Array.length_toList
  have key := wpList_copy_own hgd d s 22 22 ho 32 Try.underlying22 (by kernel_rfl) g off len dcap ad qs.length sc hd hs cur 32 hg (valsK .u64 qs) (by rw [hlen, hl]; exact (Nat.min_self _).symm) hsrc (by rw [hlen]; omega) (by intro u hu; obtain ⟨x, _, rfl⟩ := List.mem_map.1 hu; rfl) (Q := Q) (rest := rest) (ops := ops)
  refine key ?_
  rw [hlen]
  have hsz : (splice zs off qs).length = zs.length := length_splice zs off qs hfit
  refine h _ ?_ (fun q hq => setRow_other W g q _ (fun e => hq e)) (by simp [World.setRow]) (below_setRow (Below.refl _ _) hb _)
  unfold OwnK World.ownsRow
  rw [hsz]
  refine ⟨by rw [valsK_length, hsz, Nat.mul_one], .inr ⟨g, cap, _, rfl, hb, setRow_heap W g cur _ _ _ hg, hc1, hc2, ?_, ?_⟩⟩
  · rw [Nat.mul_one, ← hc3, ← hcl]
    simp
    omega
  · rw [Nat.mul_one, vals_splice, ← hc4]
    have := take_splice cur.toList (valsK .u64 qs) off zs.length (by rw [hlen]; exact hfit) (by omega)
    rw [hlen] at this
    exact this
theorem lim_splice {A B : List Nat} {o k : Nat} (h : o + B.length ≤ A.length) : lim (splice A o B) k = if o ≤ k ∧ k < o + B.length then lim B (k - o) else lim A k := by
  unfold splice lim
  have h1 : (A.take o).length = o := by rw [List.length_take]; omega
  by_cases a : k < o
  · rw [List.getElem?_append_left (by omega), if_neg (by omega), List.getElem?_take, if_pos a]
  · rw [List.getElem?_append_right (by omega), h1]
    by_cases b : k < o + B.length
    · rw [List.getElem?_append_left (by omega), if_pos ⟨by omega, b⟩]
    · rw [List.getElem?_append_right (by omega), if_neg (by omega), List.getElem?_drop, show o + B.length + (k - o - B.length) = k by omega]
theorem zn_splice (A B : List Nat) (o : Nat) : splice (zn A) o (zn B) = zn (splice A o B) := by
  unfold splice zn
  simp [List.map_take, List.map_drop]
theorem ger_splice {C i : Nat} {xs vs us : List Nat} (h : i * C + C ≤ xs.length) : splice (zn (upd (gerG C xs vs us) xs (i * C))) (i * C) (zn (rowV C fun j => gerG C xs vs us (i * C + j))) = zn (upd (gerG C xs vs us) xs ((i + 1) * C)) := by
  rw [zn_splice]
  congr 1
  have hl : i * C + (rowV C fun j => gerG C xs vs us (i * C + j)).length ≤ (upd (gerG C xs vs us) xs (i * C)).length := by rw [rowV_length, upd_length]; exact h
  refine ext_lim (by rw [length_splice _ _ _ hl, upd_length, upd_length]) fun k hk => ?_
  rw [length_splice _ _ _ hl, upd_length] at hk
  rw [lim_splice hl, rowV_length, ger_put h hk]
  by_cases a : i * C ≤ k ∧ k < i * C + C
  · rw [if_pos a, if_pos a, rowV_lim _ (by omega)]
    congr 1
    omega
  · rw [if_neg a, if_neg a]
end Go.Proofs.Ytdcebkhdnhdejaa

/- mat: Ger, told. -/
namespace Go.Proofs.Ytdcebkhdnhdejaa
open Go.RowKit Go.Shelf
/-- all blocks of w but d are as they were -/
def But1 (d : Nat) (w W : World) : Prop := w.heap.size ≤ W.heap.size ∧ ∀ g, g < w.heap.size → g ≠ d → W.heap[g]? = w.heap[g]?
section
variable {d : Nat} {w W W' : World}
theorem But1.refl (d : Nat) (w : World) : But1 d w w := ⟨Nat.le_refl _, fun _ _ _ => rfl⟩
theorem But1.below (h : But1 d w W) (hb : Below W.heap.size W W') : But1 d w W' := ⟨Nat.le_trans h.1 hb.size, fun g hg hne => (hb.block g (Nat.lt_of_lt_of_le hg h.1)).trans (h.2 g hg hne)⟩
theorem But1.put (h : But1 d w W) (h1 : ∀ q, q ≠ d → W'.heap[q]? = W.heap[q]?) (h2 : W'.heap.size = W.heap.size) : But1 d w W' := ⟨by rw [h2]; exact h.1, fun g hg hne => (h1 g hne).trans (h.2 g hg hne)⟩
theorem But1.ms {g : Nat} {cs : Array Value} {t : TypeId} (h : But1 d w W) (hM : Ms w g cs t) (hne : g ≠ d) : Ms W g cs t := (h.2 g hM.lt hne).trans hM
end
set_option maxRecDepth 100000 in
set_option maxHeartbeats 16000000 in
theorem mat_ger_yes {r c : Nat} {a vb ub : Option Addr} {m cap capv capu : Nat} {xs vs us : List Nat} {w : World} (hA : Arg w (.slice a m cap) xs) (hV : Arg w (.slice vb r capv) vs) (hU : Arg w (.slice ub c capu) us) (hx : Low 18446744073709551616 xs) (hv : Low 18446744073709551616 vs) (hu : Low 18446744073709551616 us)
    (hf : finM r c m xs = 0) (h1 : chkV vs = 0) (h2 : chkV us = 0) :
    Calls Try.prog 28 #[.agg #[.int .i64 (r : Int), .int .i64 (c : Int), .slice a m cap], .slice vb r capv, .slice ub c capu] w fun e W' => ∃ R2 C2 b n2 c2, e = .returned (.tuple #[.agg #[.int .i64 R2, .int .i64 C2, .slice b n2 c2], .int .i64 (tellV (gerV r c xs vs us) 0)]) ∧ New w.heap.size W' (.slice b n2 c2) (if tellV (gerV r c xs vs us) 0 = 0 then gerV r c xs vs us else []) ∧ (tellV (gerV r c xs vs us) 0 = 0 → R2 = r ∧ C2 = c) ∧ Below w.heap.size w W' := by
  have hpos : 0 < w.heap.size := by obtain ⟨S, hS, _⟩ := hA; omega
  have hmx : m = xs.length := by
    obtain ⟨a', c', e⟩ := hA.slice
    simp only [Value.slice.injEq] at e
    omega
  have hvl : r = vs.length := by
    obtain ⟨a', c', e⟩ := hV.slice
    simp only [Value.slice.injEq] at e
    omega
  have hul : c = us.length := by
    obtain ⟨a', c', e⟩ := hU.slice
    simp only [Value.slice.injEq] at e
    omega
  have hm := (finM_ok hf).1
  obtain ⟨q1, q2, q3, q4, q5⟩ := mayM_iff.1 hm
  have hmn : m = r * c := by rw [← Int.natCast_mul] at q5; omega
  have hrc : r * c ≤ 4096 := by have := Nat.mul_le_mul (show r ≤ 64 by omega) (show c ≤ 64 by omega); omega
  have hfx : finB xs xs.length = true := by
    have hf2 := hf
    rw [hmx] at hf2 hm
    rw [finM_may hm] at hf2
    cases h : finB xs xs.length
    · rw [h] at hf2; exact absurd hf2 (by decide)
    · rfl
  have hix : ∀ i, i < r → i * c + c ≤ m := fun i hi => by
    have := Nat.mul_le_mul_right c (show i + 1 ≤ r from hi)
    rw [Nat.add_mul, Nat.one_mul] at this
    omega
  have HFI := Lib.hid (fun (W : World) (h : Below w.heap.size w W) => shape_finite (R := (r : Int)) (C := (c : Int)) (hA.behind h) hx)
  have HC1 := Lib.hid (fun (W : World) (h : Below w.heap.size w W) => vec_check (hV.behind h) hv (by omega))
  have HC2 := Lib.hid (fun (W : World) (h : Below w.heap.size w W) => vec_check (hU.behind h) hu (by omega))
  rw [hf] at HFI
  rw [h1] at HC1
  rw [h2] at HC2
  have HCP := Lib.hid (fun (W : World) (h : Below w.heap.size w W) => mat_copied (R := (r : Int)) (C := (c : Int)) (hA.behind h) (by omega))
  obtain ⟨G, hG⟩ : ∃ G, G = gerG c xs vs us := ⟨_, rfl⟩
  have HAX := Lib.hid (fun (i : Nat) (W : World) (hi : i < r) (h : Below w.heap.size w W) (b : Option Addr) (cc : Nat) (hr : Arg W (.slice b c cc) (partW xs (i * c) c)) => by
    have hq := vec_axpy (a := lim vs i) (by have := lim_lt hv (by decide : 0 < 18446744073709551616) i; omega) (hU.behind h) hr hu (by
      intro y hy
      unfold partW at hy
      obtain ⟨k, _, rfl⟩ := List.mem_map.1 hy
      exact lim_lt hx (by decide) _) (by omega) (by rw [partW_length]; omega)
    rw [ger_axpy hul.symm, ger_both h1 h2 hfx (by rw [← hmx]; exact hix i hi) (by omega) hul.symm, ← hG] at hq
    exact hq)
  have HSP : Hid (∀ i, i < r → splice (zn (upd G xs (i * c))) (i * c) (zn (rowV c fun j => G (i * c + j))) = zn (upd G xs ((i + 1) * c))) := Lib.hid (fun i hi => by rw [hG]; exact ger_splice (by rw [← hmx]; exact hix i hi))
  have HU0 : Hid (zn xs = zn (upd G xs (0 * c)) ∧ xs.length = m) := Lib.hid ⟨by rw [Nat.zero_mul, upd_zero], hmx.symm⟩
  have HUR : Hid (upd G xs (r * c) = gerV r c xs vs us) := Lib.hid (by
    have := upd_all G xs
    rw [← hmx, hmn] at this
    rw [this, hG]; unfold gerV rowV; rfl)
  obtain ⟨E, hE⟩ : ∃ E, E = tellV (gerV r c xs vs us) 0 := ⟨_, rfl⟩
  rw [← hE]
  obtain ⟨Z, hZ⟩ : ∃ Z, Z = if E = 0 then gerV r c xs vs us else [] := ⟨_, rfl⟩
  rw [← hZ]
  have HEY : Hid ((∀ q, q < r * c → cls (G q) ≤ 1) → E = 0 ∧ Z = gerV r c xs vs us) := Lib.hid (fun h => by
    have : E = 0 := by
      rw [hE, tellV_yes, finB_iff.2 (fun j hj => by
        unfold gerV at hj ⊢
        rw [rowV_length] at hj
        rw [rowV_lim _ hj, ← hG]; exact h j hj), if_pos rfl]
    exact ⟨this, by rw [hZ, if_pos this]⟩)
  have HEN : Hid (∀ q, q < r * c → ¬ cls (G q) ≤ 1 → E = 13 ∧ Z = []) := Lib.hid (fun q hq h => by
    have : E = 13 := by
      rw [hE, tellV_yes, finB_not (j := q) (by unfold gerV; rw [rowV_length]; exact hq) (by unfold gerV; rw [rowV_lim _ hq, ← hG]; omega), if_neg (by decide)]
    exact ⟨this, by rw [hZ, if_neg (by rw [this]; decide)]⟩)
  have HRE : Hid (∀ i, i < r → tellV (rowV c fun j => G (i * c + j)) 0 = 0 ∨ (tellV (rowV c fun j => G (i * c + j)) 0 = 13 ∧ ∃ q, q < r * c ∧ ¬ cls (G q) ≤ 1)) := Lib.hid (fun i hi => by
    rcases tellV_ways (rowV c fun j => G (i * c + j)) 0 with ⟨h, _⟩ | ⟨_, _, h⟩ | ⟨_, hn, h⟩
    · exact absurd rfl h
    · exact .inl h
    · refine .inr ⟨h, ?_⟩
      refine Classical.byContradiction fun hno => ?_
      have : finB (rowV c fun j => G (i * c + j)) (rowV c fun j => G (i * c + j)).length = true := finB_iff.2 fun j hj => by
        rw [rowV_length] at hj
        rw [rowV_lim _ hj]
        refine Classical.byContradiction fun hc => hno ⟨i * c + j, ?_, hc⟩
        have := hix i hi
        omega
      rw [this] at hn; cases hn)
  have HRF : Hid (∀ i, i < r → tellV (rowV c fun j => G (i * c + j)) 0 = 0 → ∀ q, i * c ≤ q → q < i * c + c → cls (G q) ≤ 1) := Lib.hid (fun i hi h q ha hb => by
    rcases tellV_ways (rowV c fun j => G (i * c + j)) 0 with ⟨e, _⟩ | ⟨_, hy, _⟩ | ⟨_, _, e⟩
    · exact absurd rfl e
    · have := finB_iff.1 hy (q - i * c) (by rw [rowV_length]; omega)
      rw [rowV_lim _ (by omega), show i * c + (q - i * c) = q by omega] at this
      exact this
    · rw [e] at h; exact absurd h (by decide))
  obtain ⟨S, hS, hR⟩ := hA
  obtain ⟨sa, sc, es, hcap, hof⟩ := hR.slice
  simp only [Value.slice.injEq] at es
  obtain ⟨rfl, -, rfl⟩ := es
  obtain ⟨off, rfl⟩ := hof (by rw [← hmx, hmn]; exact Nat.mul_pos (by omega) (by omega))
  rw [← hmx] at hcap
  have HA : Hid (Arg w (.slice (some ⟨S, off, none⟩) m cap) xs) := Lib.hid ⟨S, hS, hR⟩
  have HRW := Lib.hid (fun (i : Nat) (w : World) (hi : i < r) => mat_row (S := S) (off := off) (m := m) (cap := cap) (C := c) (i := i) (R := (r : Int)) (w := w) (by omega) (by omega) (by omega) (hix i hi) hcap)
  have HPT := Lib.hid (fun (i : Nat) (W : World) (h : Below w.heap.size w W) (hi : i < r) => (HA.out.behind h).part (o := i * c) (k := c) (cap' := cap - i * c) (by rw [← hmx]; exact hix i hi) (by have := hix i hi; omega))
  obtain ⟨T, a', c'', hT, e, hcapv, HVO⟩ := hV.opened
  simp only [Value.slice.injEq] at e
  obtain ⟨rfl, -, rfl⟩ := e
  rw [← hvl] at HVO
  obtain ⟨B, G1, G2, hw1⟩ := vboxm w #[.int .i64 (r : Int), .int .i64 (c : Int), .slice (some ⟨S, off, none⟩) m cap] #[.int .i64 0, .int .i64 0, .slice none 0 0] 24 24 _ rfl
  have x0 : ∀ w : World, (Instr.index 90 (.agg #[.slice vb r capv, .slice ub c capu]) (.int .i64 0)).run Try.prog w = .ok (.slice vb r capv) w := fun _ => by kernel_rfl
  have x1 : ∀ w : World, (Instr.index 90 (.agg #[.slice vb r capv, .slice ub c capu]) (.int .i64 1)).run Try.prog w = .ok (.slice ub c capu) w := fun _ => by kernel_rfl
  have c0 := G1.cell (i := 0) rfl
  have c1 := G1.cell (i := 1) rfl
  have c2 := G1.cell (i := 2) rfl
  have hr63 : (r : Int) ≤ 64 := by omega
  have hc63 : (c : Int) ≤ 64 := by omega
  have hr1 : 1 ≤ r := by omega
  have hc1 : 1 ≤ c := by omega
  have HMN := Lib.hid (And.intro hmn hrc)
  clear hm q1 q2 q3 q4 q5 hmn hrc hfx hix hE hZ hmx hvl hul hx hv hu hU hV hR hof hcap hf h1 h2 hw1 hG hcapv
  go_enter Try.func28, Try.ntmps28
  go_wp2_with fail
  generalize (w.alloc (.cells #[.int .i64 (r : Int), .int .i64 (c : Int), .slice (some ⟨S, off, none⟩) m cap] 24)).alloc (.cells #[.int .i64 0, .int .i64 0, .slice none 0 0] 24) = W0 at *
  refine (HFI.out _ B).mono ?_
  rintro e w1 ⟨rfl, b1⟩
  replace B := below_both B b1
  replace G1 := G1.behind b1
  replace G2 := G2.behind b1
  clear HFI b1 c0 c1 c2
  go_wp2
  go_loopw [25] (fun i wr => ∃ (k : Nat) (z : Int), k ≤ 2 ∧ z = k ∧ i = .int .i64 z ∧ Below w1.heap.size w1 wr) (fun i _ => 2 - (intOf i).toNat)
  case atStart => exact ⟨0, 0, by omega, rfl, rfl, Below.refl _ _⟩
  case round =>
    obtain ⟨k, z, hk, hz, rfl, hB⟩ := hrel
    have hBw := below_both B hB
    rcases (show k = 0 ∨ k = 1 ∨ k = 2 by omega) with rfl | rfl | rfl
    · obtain rfl : z = 0 := hz
      go_wp2_with fail
      refine (HC1.out _ hBw).mono ?_
      rintro e w2 ⟨rfl, b2⟩
      go_wp2
      go_roundw
      case rel => exact ⟨1, 1, by omega, rfl, rfl, below_both hB b2⟩
      case measure => simp [intOf]
    · obtain rfl : z = 1 := hz
      go_wp2_with fail
      refine (HC2.out _ hBw).mono ?_
      rintro e w2 ⟨rfl, b2⟩
      go_wp2
      go_roundw
      case rel => exact ⟨2, 2, by omega, rfl, rfl, below_both hB b2⟩
      case measure => simp [intOf]
    · obtain rfl : z = 2 := hz
      replace G1 := G1.behind hB
      replace G2 := G2.behind hB
      have c0 := G1.cell (i := 0) rfl
      have c1 := G1.cell (i := 1) rfl
      have c2 := G1.cell (i := 2) rfl
      clear hB
      go_wp2_with fail
      refine (HCP.out _ hBw).mono ?_
      rintro e w3 ⟨b8, c8, rfl, ho, b3⟩
      obtain ⟨wq, rfl⟩ : ∃ wq, wq = wr := ⟨_, rfl⟩
      obtain ⟨d, c7, e7, hd1, hd2⟩ := ho.form (by rw [zn_length, HU0.out.2, HMN.out.1]; exact Nat.mul_pos hr1 hc1)
      simp only [Value.slice.injEq] at e7
      obtain ⟨rfl, -, rfl⟩ := e7
      rw [HU0.out.1] at ho
      obtain ⟨k4, K12⟩ := mbox w3 #[.int .i64 (r : Int), .int .i64 (c : Int), .slice (some ⟨d, 0, none⟩) m c8] 24 _ rfl
      have ho4 := ho.alloc (.cells #[.int .i64 (r : Int), .int .i64 (c : Int), .slice (some ⟨d, 0, none⟩) m c8] 24)
      have B4 := below_both b3 k4
      have G14 := G1.behind B4
      have G24 := G2.behind B4
      have BW := below_both hBw B4
      have hl1 := G1.lt
      have hl2 := G2.lt
      have hl3 := K12.lt
      have hs3 := hBw.size
      clear c0 c1 c2 ho b3 k4 B4 G1 G2 hBw B
      go_wp2_with fail
      generalize w3.alloc (.cells #[.int .i64 (r : Int), .int .i64 (c : Int), .slice (some ⟨d, 0, none⟩) m c8] 24) = w4 at *
      have HWF : Hid (w.heap.size + 1 < wq.heap.size ∧ wq.heap.size ≤ d ∧ d < w3.heap.size ∧ S < w.heap.size ∧ T < w.heap.size ∧ w.heap.size ≤ wq.heap.size) := Lib.hid ⟨hl2, hd1, hd2, hS, hT, hs3⟩
      have HG1 := Lib.hid G14
      have HG2 := Lib.hid G24
      have HK12 := Lib.hid K12
      have HBW := Lib.hid BW
      clear hl1 hl2 hl3 hs3 hd1 hd2 hS hT G14 G24 K12 BW
      go_loopw [52] (fun i wx => ∃ k : Nat, k ≤ r ∧ i = .int .i64 k ∧ OwnK .u64 32 wq.heap.size wx (.slice (some ⟨d, 0, none⟩) m c8) (zn (upd G xs (k * c))) ∧ But1 d w4 wx ∧ Below w.heap.size w wx ∧ Hid (∀ q, q < k * c → cls (G q) ≤ 1)) (fun i _ => r - (intOf i).toNat)
      case atStart => exact ⟨0, Nat.zero_le _, rfl, ho4, But1.refl _ _, HBW.out, Lib.hid (fun q h => by rw [Nat.zero_mul] at h; exact absurd h (Nat.not_lt_zero _))⟩
      case round =>
        obtain ⟨k, hk, rfl, ho, hUU, hBB, HQ⟩ := hrel
        have g1 := hUU.ms HG1.out (by have := HWF.out; omega)
        have g2 := hUU.ms HG2.out (by have := HWF.out; omega)
        have g3 := hUU.ms HK12.out (by have := HWF.out; omega)
        by_cases hlt : k < r
        · obtain ⟨ov, rfl, kv⟩ := HVO.out wr hBB k hlt
          have hvl := HAX.out k
          obtain ⟨L, hL⟩ : ∃ L, L = rowV c fun j => G (k * c + j) := ⟨_, rfl⟩
          have HLL := Lib.hid hL
          obtain ⟨e0, he0⟩ : ∃ e0, e0 = tellV L 0 := ⟨_, rfl⟩
          have HEL := Lib.hid he0
          have HAK := Lib.hid (fun W h b cc hr => HAX.out k W hlt h b cc hr)
          rw [← hL, ← he0] at HAK
          have HRK := Lib.hid (fun w => HRW.out k w hlt)
          have HPK := Lib.hid (fun W h => HPT.out k W h hlt)
          have hkr : (k : Int) < (r : Int) := by omega
          have Br : Below wr.heap.size wr wr := Below.refl _ _
          have hsz : T < wr.heap.size := by have := HWF.out; have := hBB.size; omega
          have HK : Hid (∀ W, Below wr.heap.size wr W → W.cell? ⟨w.heap.size, 0, none⟩ = some (.int .i64 (r : Int)) ∧ W.cell? ⟨w.heap.size, 1, none⟩ = some (.int .i64 (c : Int)) ∧ W.cell? ⟨w.heap.size, 2, none⟩ = some (.slice (some ⟨S, off, none⟩) m cap) ∧ W.cell? ⟨T, ov + k, none⟩ = some (.int .u64 (lim vs k : Int))) := Lib.hid (fun W h =>
            ⟨(g1.behind h).cell (i := 0) rfl, (g1.behind h).cell (i := 1) rfl, (g1.behind h).cell (i := 2) rfl, (h.cell (p := ⟨T, ov + k, none⟩) hsz).trans kv⟩)
          clear hvl hL he0 kv
          generalize lim vs k = xv at *
          have HBB := Lib.hid hBB
          go_upto_region 17 with (fail)
          go_cut [14, 15] from 55 to 66 (fun u v wz => v = .int .i64 e0 ∧ OwnK .u64 32 wr.heap.size wz u (zn (if e0 = 0 then L else [])) ∧ Below wr.heap.size wr wz)
          case first =>
           as_aux_lemma =>
            go_region_held3 (fun W => W.cell? ⟨w.heap.size, 0, none⟩ = some (.int .i64 (r : Int)) ∧ W.cell? ⟨w.heap.size, 1, none⟩ = some (.int .i64 (c : Int)) ∧ W.cell? ⟨w.heap.size, 2, none⟩ = some (.slice (some ⟨S, off, none⟩) m cap) ∧ W.cell? ⟨T, ov + k, none⟩ = some (.int .u64 (xv : Int)))
              (first | with_reducible exact HK.out _ Br | with_reducible exact HK.out _ Br.drew)
              (first
                | (go_at_call 69; (with_reducible refine (HRK.out _).mono ?_); rintro e v4 ⟨rfl, bz⟩; replace Br : Below wr.heap.size wr v4 := (by first | with_reducible exact below_both Br bz | with_reducible exact below_both Br.drew bz); clear bz; have hpk := HPK.out v4 (below_both HBB.out Br); have hs4 := Br.size)
                | (go_at_call 71; (with_reducible refine (HAK.out _ (by first | with_reducible exact below_both HBB.out Br | with_reducible exact below_both HBB.out Br.drew) _ _ (by first | with_reducible exact hpk | exact hpk.behind (Below.refl _ _).drew)).mono ?_); rintro e v5 ⟨v', rfl, hO, bz⟩; replace Br : Below wr.heap.size wr v5 := (by first | with_reducible exact below_both Br bz | with_reducible exact below_both Br.drew bz); clear bz; replace hO := OwnK.mono (show OwnK .u64 32 v4.heap.size v5 v' _ from hO) hs4))
            all_goals
              go_wp2_with fail
              go_meet
              exact ⟨rfl, hO, Br⟩
          obtain ⟨hv0, hO, hB6⟩ := hcut
          subst hv0
          have hoc := ho.below hB6
          have hUc := hUU.below hB6
          have hBc := below_both HBB.out hB6
          have g2c := g2.behind hB6
          have g3c := g3.behind hB6
          clear HK HAK HRK HPK g1 g2 g3 ho hUU Br hBB
          rcases HRE.out k hlt with he | ⟨he, q, hq, hqc⟩
          · rw [← HLL.out, ← HEL.out] at he
            have HR0 := Lib.hid (HRF.out k hlt (by rw [← HLL.out, ← HEL.out]; exact he))
            subst he
            rw [if_pos rfl] at hO
            have hlL : (zn L).length = c := by rw [zn_length, HLL.out, rowV_length]
            obtain ⟨gq, cq, eq, hq1, hq2⟩ := hO.form (by rw [hlL]; exact hc1)
            subst eq
            have hmc : m ≤ c8 := by
              have h := hoc
              unfold OwnK World.ownsRow at h
              rcases h.2 with ⟨e, _⟩ | ⟨_, _, _, e, _, _, h1, _⟩
              · simp at e
              · simp only [Value.slice.injEq] at e; omega
            have hkm : k * c + c ≤ m := by
              have := Nat.mul_le_mul_right c (show k + 1 ≤ r from hlt)
              rw [Nat.add_mul, Nat.one_mul] at this
              have := HMN.out.1
              omega
            have HR2 := Lib.hid (mat_row (S := d) (off := 0) (m := m) (cap := c8) (C := c) (i := k) (R := (r : Int)) (w := wc) (by omega) (by omega) (by omega) hkm hmc)
            rw [Nat.zero_add] at HR2
            have k0 : wc.cell? ⟨w3.heap.size, 0, none⟩ = some (.int .i64 (r : Int)) := g3c.cell (i := 0) rfl
            have k1 : wc.cell? ⟨w3.heap.size, 1, none⟩ = some (.int .i64 (c : Int)) := g3c.cell (i := 1) rfl
            have k2 : wc.cell? ⟨w3.heap.size, 2, none⟩ = some (.slice (some ⟨d, 0, none⟩) m c8) := g3c.cell (i := 2) rfl
            have HSk := Lib.hid (HSP.out k hlt)
            rw [← HLL.out] at HSk
            have hfit : k * c + (zn L).length ≤ (zn (upd G xs (k * c))).length := by rw [hlL, zn_length, upd_length, HU0.out.2]; exact hkm
            have HQ2 : Hid (∀ q, q < (k + 1) * c → cls (G q) ≤ 1) := Lib.hid (fun q hq => by
              rw [Nat.add_mul, Nat.one_mul] at hq
              rcases Nat.lt_or_ge q (k * c) with h | h
              · exact HQ.out q h
              · exact HR0.out q h hq)
            have HLc := Lib.hid hlL
            clear hmc hkm g2c g3c HR0 hlL
            go_wp2_with fail
            refine HR2.out.mono ?_
            rintro e w5 ⟨rfl, b5⟩
            have hO5 := hO.below b5
            have ho5 := hoc.below b5
            have hU5 := hUc.below b5
            have hB5 := below_both hBc b5
            have HSRC : Hid (∀ j v, (valsK .u64 (zn L))[j]? = some v → w5.cell? ((⟨gq, 0, none⟩ : Addr).add j) = some v) := Lib.hid (fun j v hv => by
              have hj : j < (zn L).length := by
                rcases Nat.lt_or_ge j (zn L).length with h | h
                · exact h
                · rw [List.getElem?_eq_none (by rw [valsK_length]; exact h)] at hv; cases hv
              rw [valsK_get hj] at hv
              have ha : (⟨gq, 0, none⟩ : Addr).add j = ⟨gq, j, none⟩ := by unfold Addr.add; split <;> simp_all
              rw [ha, hO5.cell hj]; exact hv)
            clear hO hoc hUc hBc k0 k1 k2 b5
            go_wp2_with (refine own_copy rfl (.tmp 73) (.tmp 74) rfl rfl rfl ho5 HLc.out.symm hfit HSRC.out ?_; intro w6 ho6 hh6 hs6 hb6)
            go_roundw
            case rel => exact ⟨k + 1, by omega, by simp, by rw [← HSk.out]; exact ho6, hU5.put hh6 hs6, hB5.trans (hb6.mono HWF.out.2.2.2.2.2), HQ2⟩
            case measure => simp [intOf]; omega
          · rw [← HLL.out, ← HEL.out] at he
            subst he
            have HT := Lib.hid (HEN.out q hq hqc)
            have g30 := g2c.cell (i := 0) rfl
            have g31 := g2c.cell (i := 1) rfl
            have g33 := g2c.cell (i := 2) rfl
            have f0 := g2c.f 0
            have f1 := g2c.f 1
            have f2 := g2c.f 2
            have HBX := Lib.hid hBc
            clear hO hoc hUc hBc g2c g3c hq hqc
            go_wp2
            exact bodyPost_ret (v := .tuple #[.agg #[.int .i64 0, .int .i64 0, .slice none 0 0], .int .i64 13]) (by simp [results, Try.results28, go_sem, g30, g31, g33]) rfl
              ⟨0, 0, none, 0, 0, by rw [HT.out.1], by rw [HT.out.2]; exact new_nil _ hpos (HBX.out.put3 (by omega) _ _ _), fun h => absurd (HT.out.1.symm.trans h) (by decide), HBX.out.put3 (by omega) _ _ _⟩
        · obtain rfl : k = r := by omega
          have HT := Lib.hid (HEY.out HQ.out)
          rw [HUR.out] at ho
          have hsz := hBB.size
          have hUs := hUU.1
          have HN := Lib.hid (new_zn.2 (ho.new (by omega)))
          have k0 := g3.cell (i := 0) rfl
          have k1 := g3.cell (i := 1) rfl
          have k2 := g3.cell (i := 2) rfl
          have g30 := g2.cell (i := 0) rfl
          have g31 := g2.cell (i := 1) rfl
          have g33 := g2.cell (i := 2) rfl
          have f0 := g2.f 0
          have f1 := g2.f 1
          have f2 := g2.f 2
          have HBX := Lib.hid hBB
          clear ho hlt hsz hUs g1 g2 g3 hUU hBB
          go_wp2
          exact bodyPost_ret (v := .tuple #[.agg #[.int .i64 (k : Int), .int .i64 (c : Int), .slice (some ⟨d, 0, none⟩) m c8], .int .i64 0]) (by simp [results, Try.results28, go_sem, g30, g31, g33]) rfl
            ⟨k, c, _, _, _, by rw [HT.out.1], by rw [HT.out.2]; exact (HN.out.put3 (by have := HWF.out; omega) _ _ _).lower (by have := HWF.out; omega), fun _ => ⟨rfl, rfl⟩, HBX.out.put3 (by omega) _ _ _⟩
end Go.Proofs.Ytdcebkhdnhdejaa
