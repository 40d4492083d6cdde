/- gemm: rowOf, turned, New, multiply. -/
import Derived.Test.YtjapilpjahhimaaMaPair
import Derived.Test.YtjapilpjahhimaaShMake
import Derived.Test.YtjapilpjahhimaaGeNum
import Derived.Deep.RegionHeld3
namespace Go.Proofs.Ytjapilpjahhimaa
open Go.RowKit Go.Shelf
theorem gemm_row {S off m cap C i : Nat} {R : Int} {w : World} (hC0 : 0 < C) (hC : C ≤ 64) (hi : i ≤ 64) (hm : i * C + C ≤ m) (hc : m ≤ cap) :
    Calls Try.prog 75 #[.agg #[.int .i64 R, .int .i64 (C : Int), .slice (some ⟨S, off, none⟩) m cap], .int .i64 (i : Int)] w fun e W' => e = .returned (.slice (some ⟨S, off + i * C, none⟩) C (cap - i * C)) ∧ Below w.heap.size w W' := by
  obtain ⟨B, G⟩ := mbox w #[.int .i64 R, .int .i64 (C : Int), .slice (some ⟨S, off, none⟩) m cap] 24 _ rfl
  have c1 := G.cell (i := 1) rfl
  have c2 := G.cell (i := 2) rfl
  obtain ⟨P, hP⟩ : ∃ P, P = i * C := ⟨_, rfl⟩
  obtain ⟨Q, hQ⟩ : ∃ Q, Q = i * C + C := ⟨_, rfl⟩
  have hrc := Nat.mul_le_mul hi hC
  have e1 : IntKind.i64.wrap ((i : Int) * (C : Int)) = (P : Int) := by rw [← Int.natCast_mul, ← hP]; exact IntWalk.i64_in _ (by omega)
  have e2 : IntKind.i64.wrap (((i : Int) + 1) * (C : Int)) = (Q : Int) := by
    rw [show ((i : Int) + 1) * (C : Int) = (Q : Int) by rw [Int.add_mul, Int.one_mul, ← Int.natCast_mul, hQ, Int.natCast_add]]
    exact IntWalk.i64_in _ (by omega)
  have g1 : (P : Int) ≤ (Q : Int) := by omega
  have g2 : (Q : Int) ≤ (cap : Int) := by omega
  have g3 : Q - P = C := by omega
  have g4 : P ≤ cap := by omega
  have g5 : ¬ cap = P := by omega
  have hi1 : (i : Int) ≤ 64 := by omega
  rw [← hP]
  clear hP hQ hrc hm hc
  go_enter Try.func75, Try.ntmps75
  go_wp2
  go_ret
  exact ⟨rfl, B⟩
/-- the words of a row, out of a matrix that reads so -/
theorem row_arg {W : World} {S off m cap C i : Nat} {xs : List Nat} (h : Arg W (.slice (some ⟨S, off, none⟩) m cap) xs) (hm : i * C + C ≤ xs.length) (hc : xs.length ≤ cap) : Arg W (.slice (some ⟨S, off + i * C, none⟩) C (cap - i * C)) (rowL xs C i) :=
  h.part (o := i * C) (k := C) (cap' := cap - i * C) hm (by omega)
set_option maxHeartbeats 4000000 in
theorem gemm_turned {a : Option Addr} {m cap R C : Nat} {xs : List Nat} {w : World} (hA : Arg w (.slice a m cap) xs) (hl : Low 18446744073709551616 xs) (h : mayM R C m = true) :
    Calls Try.prog 73 #[.agg #[.int .i64 (R : Int), .int .i64 (C : Int), .slice a m cap], .bool true] w fun e W' => ∃ b c, e = .returned (.agg #[.int .i64 (C : Int), .int .i64 (R : Int), .slice b (R * C) c]) ∧ New w.heap.size W' (.slice b (R * C) c) (trl R C xs) ∧ Below w.heap.size w W' := by
  obtain ⟨B, G1, G2, hw0⟩ := vboxm w #[.int .i64 (R : Int), .int .i64 (C : Int), .slice a m cap] #[.int .i64 0, .int .i64 0, .slice none 0 0] 24 24 _ rfl
  have HT := Lib.hid (shape_turn (hA.behind B) hl h)
  have c0 := G1.cell (i := 0) rfl
  have c1 := G1.cell (i := 1) rfl
  have c2 := G1.cell (i := 2) rfl
  clear hA hl h
  generalize trl R C xs = ys at *
  generalize R * C = N at *
  go_enter Try.func73, Try.ntmps73
  go_wp2_with fail
  generalize (w.alloc (.cells #[.int .i64 (R : Int), .int .i64 (C : Int), .slice a m cap] 24)).alloc (.cells #[.int .i64 0, .int .i64 0, .slice none 0 0] 24) = W0 at *
  refine HT.out.mono ?_
  rintro e w1 ⟨b, c, rfl, hN, b1⟩
  obtain ⟨b2, K⟩ := mbox w1 #[.int .i64 (C : Int), .int .i64 (R : Int), .slice b N c] 24 _ rfl
  have B2 := below_both b1 b2
  have G4 := G2.behind B2
  have g0 := G4.cell (i := 0) rfl
  have g1 := G4.cell (i := 1) rfl
  have g2 := G4.cell (i := 2) rfl
  have f0 := G4.f 0
  have f1 := G4.f 1
  have f2 := G4.f 2
  have k0 := K.cell (i := 0) rfl
  have k1 := K.cell (i := 1) rfl
  have k2 := K.cell (i := 2) rfl
  have HN := Lib.hid (hN.behind b2)
  have HB := Lib.hid (below_both B B2)
  clear hN G4
  go_wp2
  exact bodyPost_ret (v := .agg #[.int .i64 (C : Int), .int .i64 (R : Int), .slice b N c]) (by simp [results, Try.results73, go_sem, g0, g1, g2]) rfl
    ⟨b, c, rfl, (HN.out.put3 hw0 _ _ _).lower (by omega), HB.out.put3 (by omega) _ _ _⟩
set_option maxHeartbeats 4000000 in
theorem gemm_turned_no {a : Option Addr} {m cap : Nat} {R C : Int} {w : World} (h : mayM R C m = false) :
    Calls Try.prog 73 #[.agg #[.int .i64 R, .int .i64 C, .slice a m cap], .bool true] w fun e W' => e = .returned (.agg #[.int .i64 0, .int .i64 0, .slice none 0 0]) ∧ Below w.heap.size w W' := by
  obtain ⟨B, G1, G2, hw0⟩ := vboxm w #[.int .i64 R, .int .i64 C, .slice a m cap] #[.int .i64 0, .int .i64 0, .slice none 0 0] 24 24 _ rfl
  have HT := Lib.hid (fun w => shape_turn_no (R := R) (C := C) (a := a) (m := m) (cap := cap) (w := w) h)
  have c0 := G1.cell (i := 0) rfl
  have c1 := G1.cell (i := 1) rfl
  have c2 := G1.cell (i := 2) rfl
  clear h
  go_enter Try.func73, Try.ntmps73
  go_wp2_with fail
  generalize (w.alloc (.cells #[.int .i64 R, .int .i64 C, .slice a m cap] 24)).alloc (.cells #[.int .i64 0, .int .i64 0, .slice none 0 0] 24) = W0 at *
  refine (HT.out _).mono ?_
  rintro e w1 ⟨rfl, b1⟩
  obtain ⟨b2, K⟩ := mbox w1 #[.int .i64 0, .int .i64 0, .slice none 0 0] 24 _ rfl
  have B2 := below_both b1 b2
  have G4 := G2.behind B2
  have g0 := G4.cell (i := 0) rfl
  have g1 := G4.cell (i := 1) rfl
  have g2 := G4.cell (i := 2) rfl
  have f0 := G4.f 0
  have f1 := G4.f 1
  have f2 := G4.f 2
  have k0 := K.cell (i := 0) rfl
  have k1 := K.cell (i := 1) rfl
  have k2 := K.cell (i := 2) rfl
  have HB := Lib.hid (below_both B B2)
  clear G4
  go_wp2
  exact bodyPost_ret (v := .agg #[.int .i64 0, .int .i64 0, .slice none 0 0]) (by simp [results, Try.results73, go_sem, g0, g1, g2]) rfl
    ⟨rfl, HB.out.put3 (by omega) _ _ _⟩
theorem gemm_turned_f {a : Option Addr} {m cap : Nat} {R C : Int} {w : World} :
    Calls Try.prog 73 #[.agg #[.int .i64 R, .int .i64 C, .slice a m cap], .bool false] w fun e W' => e = .returned (.agg #[.int .i64 R, .int .i64 C, .slice a m cap]) ∧ Below w.heap.size w W' := by
  obtain ⟨B, G1, G2, hw0⟩ := vboxm w #[.int .i64 R, .int .i64 C, .slice a m cap] #[.int .i64 R, .int .i64 C, .slice a m cap] 24 24 _ rfl
  have g0 := G2.cell (i := 0) rfl
  have g1 := G2.cell (i := 1) rfl
  have g2 := G2.cell (i := 2) rfl
  have HB := Lib.hid B
  go_enter Try.func73, Try.ntmps73
  go_wp2
  exact bodyPost_ret (v := .agg #[.int .i64 R, .int .i64 C, .slice a m cap]) (by simp [results, Try.results73, go_sem, g0, g1, g2]) rfl
    ⟨rfl, HB.out⟩
theorem shape_new0 {i j : Nat} {w : World} : Calls Try.prog 76 #[.int .i64 (i : Int), .int .i64 (j : Int)] w fun e W' => e = .returned (.int .u64 0) ∧ Below w.heap.size w W' := by
  have hz := fun w => pzero1 false w
  rw [show sgn false = 0 from rfl] at hz
  go_enter Try.func76, Try.ntmps76
  first
    | (go_wp2; go_ret; exact ⟨rfl, Below.refl _ _⟩)
    | (go_wp2_with fail
       refine (hz _).mono ?_
       rintro e w1 ⟨rfl, rfl⟩
       go_wp2
       go_ret
       exact ⟨rfl, Below.refl _ _⟩)
set_option maxRecDepth 100000 in
set_option maxHeartbeats 4000000 in
/-- build, with a closure that tells the word of each place -/
theorem shape_build_own {R C k : Nat} {fs : Array Value} (g : Nat → Nat → Nat) {w : World} (hR : 1 ≤ R ∧ R ≤ 64) (hC : 1 ≤ C ∧ C ≤ 64)
    (he : Enters k) (hf : ∀ (i j : Nat) (W : World), i < R → j < C → Below w.heap.size w W → Calls Try.prog k (#[.int .i64 (i : Int), .int .i64 (j : Int)] ++ fs) W fun e W' => e = .returned (.int .u64 (g i j : Int)) ∧ Below W.heap.size W W') :
    Calls Try.prog 63 #[.int .i64 (R : Int), .int .i64 (C : Int), .func (.func k) #[] fs] w fun e W' => ∃ b c, e = .returned (.tuple #[.agg #[.int .i64 (R : Int), .int .i64 (C : Int), .slice b (R * C) c], .int .i64 0]) ∧ OwnK .u64 49 w.heap.size W' (.slice b (R * C) c) (zn (tab R C g)) ∧ Below w.heap.size w W' := by
  obtain ⟨bx, G⟩ := mbox w #[.int .i64 0, .int .i64 0, .slice none 0 0] 24 _ rfl
  have hms : ∀ w, Calls Try.prog 71 #[.int .i64 (R : Int), .int .i64 (C : Int)] w fun e W' => e = .returned (.bool true) ∧ w = W' := fun w => by
    have := shape_may (R := R) (C := C) (w := w)
    rwa [mayS_iff.2 ⟨by omega, by omega, by omega, by omega⟩] at this
  have hrc : R * C ≤ 4096 := by have := Nat.mul_le_mul hR.2 hC.2; omega
  have hwp : IntKind.i64.wrap ((R : Int) * (C : Int)) = ((R * C : Nat) : Int) := by rw [Int.natCast_mul]; exact IntWalk.i64_in _ (by omega)
  have hmk := make0_u64 (R * C) (by omega)
  have HF := Lib.hid hf
  have HOWN := Lib.hid (own0_u64 (R * C) (by omega))
  have HEN := Lib.hid he
  clear hf he
  have hw0 : w.heap.size < (w.alloc (.cells #[.int .i64 0, .int .i64 0, .slice none 0 0] 24)).heap.size := by rw [World.size_alloc]; omega
  generalize hN : R * C = N at *
  have HN := Lib.hid hN
  clear hN
  go_enter Try.func63, Try.ntmps63
  go_wp2_with fail
  generalize w.alloc (.cells #[.int .i64 0, .int .i64 0, .slice none 0 0] 24) = W0 at *
  have hm1 := hmk W0
  clear hmk
  refine (hms _).mono ?_
  rintro e w1 ⟨rfl, rfl⟩
  clear hms
  go_wp2
  have hown1 := HOWN.out W0
  clear hm1 HOWN
  have hB1 : Below W0.heap.size W0 (W0.alloc (.cells (madeCells #[.int .u64 0] N) 49)) := (Below.refl _ W0).alloc (Nat.le_refl _) _
  generalize W0.alloc (.cells (madeCells #[.int .u64 0] N) 49) = W1 at *
  go_loopw [8, 21] (fun d i wr => ∃ q : Nat, q ≤ R ∧ i = .int .i64 q ∧ OwnK .u64 49 W0.heap.size wr d (zn (pre C g (q * C))) ∧ Below W0.heap.size W0 wr) (fun _ i _ => R - (intOf i).toNat)
  case atStart => exact ⟨0, Nat.zero_le _, rfl, by rw [Nat.zero_mul, pre_zero]; exact hown1, hB1⟩
  case round =>
    obtain ⟨q, hq, rfl, hown, hB⟩ := hrel
    by_cases hlt : q < R
    · go_wp2
      have hown0 : OwnK .u64 49 W0.heap.size wr u8 (zn (pre C g (q * C + 0))) := hown
      have hqc : q * C + C ≤ N := by
        have := Nat.mul_le_mul_right C (show q + 1 ≤ R from hlt)
        rw [Nat.add_mul, Nat.one_mul, HN.out] at this
        omega
      clear hown
      obtain ⟨wo, rfl⟩ : ∃ wo : World, wo = wr := ⟨_, rfl⟩
      go_loopw [8, 25] (fun d j wi => ∃ r : Nat, r ≤ C ∧ j = .int .i64 r ∧ OwnK .u64 49 W0.heap.size wi d (zn (pre C g (q * C + r))) ∧ Below W0.heap.size W0 wi) (fun _ j _ => C - (intOf j).toNat)
      case atStart => exact ⟨0, Nat.zero_le _, rfl, hown0, hB⟩
      case round =>
        obtain ⟨r, hr, rfl, hownr, hBr⟩ := hrel
        by_cases hrt : r < C
        · have hc := HF.out q r wr hlt hrt (below_both bx hBr)
          have hen := HEN.out (#[.int .i64 (q : Int), .int .i64 (r : Int)] ++ fs) wr
          have HS := Lib.hid (pre_snoc (C := C) (i := q) g hrt)
          have hlen : (zn (pre C g (q * C + r))).length + 1 ≤ 17592186044416 := by rw [zn_length, pre_length]; omega
          go_wp2_with fail
          refine hc.mono ?_
          rintro e w2 ⟨rfl, b2⟩
          clear hc hen
          replace hBr := below_both hBr b2
          have hown2 := hownr.below b2
          go_wp2_with (at_builtin; refine app_u64 rfl _ _ rfl rfl rfl (cell_new1 _ _ _) (hown2.alloc _) hlen (by have := hBr.size; simp; omega) ?_; intro v' w3 hown3 hb3)
          go_roundw
          case rel => exact ⟨r + 1, by omega, by simp, by rw [← Nat.add_assoc, HS.out, zn_snoc]; exact hown3, (hBr.alloc hBr.size _).trans hb3⟩
          case measure => simp [intOf]; omega
        · obtain rfl : r = C := by omega
          clear hrt
          go_wp2
          go_roundw
          case rel => exact ⟨q + 1, by omega, by simp, by rw [Nat.add_mul, Nat.one_mul]; exact hownr, hBr⟩
          case measure => simp [intOf]; omega
    · obtain rfl : q = R := by omega
      clear hlt
      rw [HN.out] at hown
      have hN2 : (zn (pre C g N)).length = N := by rw [zn_length, pre_length]
      obtain ⟨a8, c8, e8⟩ := hown.len
      rw [hN2] at e8
      have G1 := G.below hB hw0
      have g0 := G1.cell (i := 0) rfl
      have g1 := G1.cell (i := 1) rfl
      have g2 := G1.cell (i := 2) rfl
      have f0 := G1.f 0
      have f1 := G1.f 1
      have f2 := G1.f 2
      subst e8
      have HNEW := Lib.hid hown
      clear hN2 hown hown1
      go_wp2
      exact bodyPost_ret (v := .tuple #[.agg #[.int .i64 (q : Int), .int .i64 (C : Int), .slice a8 N c8], .int .i64 0]) (by simp [results, Try.results63, go_sem, g0, g1, g2]) rfl
        ⟨a8, c8, rfl, ((by unfold tab; rw [HN.out]; exact HNEW.out : OwnK .u64 49 W0.heap.size wr (.slice a8 N c8) (zn (tab q C g))).put3 hw0 _ _ _).mono (Nat.le_of_lt hw0), (below_both bx hB).put3 (Nat.le_refl _) _ _ _⟩
set_option maxHeartbeats 2000000 in
/-- a matrix of zeros, the call's own -/
theorem shape_new {R C : Nat} (w : World) (hR : 1 ≤ R ∧ R ≤ 64) (hC : 1 ≤ C ∧ C ≤ 64) : Calls Try.prog 54 #[.int .i64 (R : Int), .int .i64 (C : Int)] w fun e W' => ∃ b c, e = .returned (.tuple #[.agg #[.int .i64 (R : Int), .int .i64 (C : Int), .slice b (R * C) c], .int .i64 0]) ∧ OwnK .u64 49 w.heap.size W' (.slice b (R * C) c) (zn (tab R C fun _ _ => 0)) ∧ Below w.heap.size w W' := by
  have hb := fun w => shape_build_own (R := R) (C := C) (k := 76) (fs := #[]) (fun _ _ => 0) (w := w) hR hC (enters_of Try.func76 (by kernel_rfl) rfl) (fun i j W hi hj _ => shape_new0)
  have bx := bel_new w (.cells #[.int .i64 0, .int .i64 0, .slice none 0 0] 24)
  have G : Ms (w.alloc (.cells #[.int .i64 0, .int .i64 0, .slice none 0 0] 24)) w.heap.size #[.int .i64 0, .int .i64 0, .slice none 0 0] 24 := World.alloc_heap_new w _
  have hw0 : w.heap.size < (w.alloc (.cells #[.int .i64 0, .int .i64 0, .slice none 0 0] 24)).heap.size := by rw [World.size_alloc]; omega
  clear hR hC
  generalize (tab R C fun _ _ => 0) = ys at *
  generalize R * C = N at *
  go_enter Try.func54, Try.ntmps54
  go_wp2_with fail
  generalize w.alloc (.cells #[.int .i64 0, .int .i64 0, .slice none 0 0] 24) = W0 at *
  refine (hb _).mono ?_
  rintro e w1 ⟨b, c, rfl, hN, b1⟩
  clear hb
  have G1 := G.behind b1
  have g0 := G1.cell (i := 0) rfl
  have g1 := G1.cell (i := 1) rfl
  have g2 := G1.cell (i := 2) rfl
  have f0 := G1.f 0
  have f1 := G1.f 1
  have f2 := G1.f 2
  have HN := Lib.hid hN
  clear hN
  go_wp2
  exact bodyPost_ret (v := .tuple #[.agg #[.int .i64 (R : Int), .int .i64 (C : Int), .slice b N c], .int .i64 0]) (by simp [results, Try.results54, go_sem, g0, g1, g2]) rfl
    ⟨b, c, rfl, (HN.out.put3 hw0 _ _ _).mono (Nat.le_of_lt hw0), (below_both bx b1).put3 (Nat.le_refl _) _ _ _⟩
end Go.Proofs.Ytjapilpjahhimaa

/- gemm: multiply. -/
namespace Go.Proofs.Ytjapilpjahhimaa
open Go.RowKit Go.Shelf
/-- all blocks of w but d are as they were -/
def But (d : Nat) (w W : World) : Prop := w.heap.size ≤ W.heap.size ∧ ∀ g, g < w.heap.size → g ≠ d → W.heap[g]? = w.heap[g]?
section
variable {d : Nat} {w W W' : World}
theorem But.refl (d : Nat) (w : World) : But d w w := ⟨Nat.le_refl _, fun _ _ _ => rfl⟩
theorem But.below (h : But d w W) (hb : Below W.heap.size W W') : But d w W' := ⟨Nat.le_trans h.1 hb.size, fun g hg hne => (hb.block g (Nat.lt_of_lt_of_le hg h.1)).trans (h.2 g hg hne)⟩
theorem But.set (h : But d w W) (k : Nat) (u : Value) : But d w (W.setCell ⟨d, k, none⟩ u) := ⟨by rw [World.size_setCell]; exact h.1, fun g hg hne => (Below.heap_setCell W ⟨d, k, none⟩ u g hne).trans (h.2 g hg hne)⟩
theorem But.ms {g : Nat} {cs : Array Value} {t : TypeId} (h : But d w W) (hM : Ms w g cs t) (hne : g ≠ d) : Ms W g cs t := (h.2 g hM.lt hne).trans hM
theorem But.arg {b : Nat} {v : Value} {xs : List Nat} (h : But d w W) (hb : b < w.heap.size) (hne : b ≠ d) (hR : RdAt b w v xs) : Arg W v xs := ⟨b, Nat.lt_of_lt_of_le hb h.1, hR.kept (h.2 b hb hne)⟩
end
theorem fin_row {xs : List Nat} {C i : Nat} (hf : finB xs xs.length = true) (h : i * C + C ≤ xs.length) (hC : C ≤ 64) : chkV (rowL xs C i) = 0 := by
  refine chkV_ok.2 ⟨by rw [rowL_length]; exact hC, finB_iff.2 fun j hj => ?_⟩
  rw [rowL_length] at hj
  rw [rowL_lim hj]
  exact finB_iff.1 hf _ (by omega)
theorem fin_trl {K C : Nat} {ys : List Nat} (hl : ys.length = K * C) (hf : finB ys ys.length = true) : finB (trl K C ys) (trl K C ys).length = true := by
  refine finB_iff.2 fun j hj => ?_
  rw [trl_length] at hj
  have hK : 0 < K := by
    rcases Nat.eq_zero_or_pos K with h | h
    · subst h; simp at hj
    · exact h
  have h1 : j % K < K := Nat.mod_lt _ hK
  have h2 : j / K < C := by rw [Nat.div_lt_iff_lt_mul hK, Nat.mul_comm]; exact hj
  have e := trl_lim ys h1 h2
  rw [show j / K * K + j % K = j by rw [Nat.mul_comm]; exact Nat.div_add_mod j K] at e
  rw [e]
  refine finB_iff.1 hf _ ?_
  rw [hl]
  have := Nat.mul_le_mul_right C (show j % K + 1 ≤ K from h1)
  rw [Nat.add_mul, Nat.one_mul] at this
  omega
theorem col_row {K C j : Nat} (ys : List Nat) (hj : j < C) : rowL (trl K C ys) K j = rowV K fun l => lim ys (l * C + j) := by
  refine ext_lim (by rw [rowL_length, rowV_length]) fun l hl => ?_
  rw [rowL_length] at hl
  rw [rowL_lim hl, rowV_lim _ hl, trl_lim ys hl hj]
theorem dot_fin {p q : List Nat} {K : Nat} (hp : chkV p = 0) (hq : chkV q = 0) (h1 : p.length = K) (h2 : q.length = K) : dotE p q = (if cls (dotV p q K) ≤ 1 then 0 else 13) ∧ (cls (dotV p q K) ≤ 1 → dotR p q = dotV p q K) := by
  have hb : bothV p q 0 = 0 := by
    unfold bothV
    rw [if_neg (by simp [hp]), if_neg (by simp [hq]), if_neg (by decide), if_neg (by simp [h1, h2])]
  have he : dotE p q = (if cls (dotV p q K) ≤ 1 then 0 else 13) := by
    unfold dotE
    rw [if_neg (by simp [hb]), h1]
  refine ⟨he, fun h => ?_⟩
  unfold dotR
  rw [he, if_pos h, if_pos rfl, h1]
def prodG (K C : Nat) (xs ys : List Nat) (k : Nat) : Nat := dotV (rowV K fun l => lim xs (k / C * K + l)) (rowV K fun l => lim ys (l * C + k % C)) K
theorem prodG_lt (K C : Nat) (xs ys : List Nat) (k : Nat) : prodG K C xs ys k ≤ 18446744073709551615 := dotV_lt _ _ _
theorem prodM_low (R K C : Nat) (xs ys : List Nat) : Low 18446744073709551616 (prodM R K C xs ys) := rowV_low fun k _ => prodG_lt K C xs ys k
set_option maxRecDepth 100000 in
set_option maxHeartbeats 16000000 in
theorem gemm_multiply0 {R K C : Nat} {a b : Option Addr} {m n cap cap' : Nat} {xs ys : List Nat} {w : World} (hA : Arg w (.slice a m cap) xs) (hB : Arg w (.slice b n cap') ys) (hx : Low 18446744073709551616 xs) (hy : Low 18446744073709551616 ys)
    (h1 : finM R K m xs = 0) (h2 : finM K C n ys = 0) :
    Calls Try.prog 49 #[.agg #[.int .i64 (R : Int), .int .i64 (K : Int), .slice a m cap], .agg #[.int .i64 (K : Int), .int .i64 (C : Int), .slice b n cap']] w fun e W' => ∃ R2 C2 b2 n2 c2, e = .returned (.tuple #[.agg #[.int .i64 R2, .int .i64 C2, .slice b2 n2 c2], .int .i64 (tellV (prodM R K C xs ys) 0)]) ∧ New w.heap.size W' (.slice b2 n2 c2) (if tellV (prodM R K C xs ys) 0 = 0 then prodM R K C xs ys else []) ∧ ((tellV (prodM R K C xs ys) 0 = 0 → R2 = R ∧ C2 = C) ∧ (tellV (prodM R K C xs ys) 0 ≠ 0 → R2 = 0 ∧ C2 = 0)) ∧ Below w.heap.size w W' := by
  have hpos : 0 < w.heap.size := by obtain ⟨S, hS, _⟩ := hA; omega
  have hmx : m = xs.length := by
    obtain ⟨a', c', e⟩ := hA.slice
    simp only [Value.slice.injEq] at e
    omega
  have hny : n = ys.length := by
    obtain ⟨a', c', e⟩ := hB.slice
    simp only [Value.slice.injEq] at e
    omega
  have hm := (finM_ok h1).1
  have hn := (finM_ok h2).1
  obtain ⟨q1, q2, q3, q4, q5⟩ := mayM_iff.1 hm
  obtain ⟨_, _, q6, q7, q8⟩ := mayM_iff.1 hn
  have hmn : m = R * K := by rw [← Int.natCast_mul] at q5; omega
  have hnn : n = K * C := by rw [← Int.natCast_mul] at q8; omega
  have hfx : finB xs xs.length = true := by
    rw [hmx] at h1 hm
    rw [finM_may hm] at h1
    cases hf : finB xs xs.length
    · rw [hf] at h1; exact absurd h1 (by decide)
    · rfl
  have hfy : finB ys ys.length = true := by
    rw [hny] at h2 hn
    rw [finM_may hn] at h2
    cases hf : finB ys ys.length
    · rw [hf] at h2; exact absurd h2 (by decide)
    · rfl
  have hft := fin_trl (K := K) (C := C) (by rw [← hny]; exact hnn) hfy
  have hrc : R * C ≤ 4096 := by have := Nat.mul_le_mul (show R ≤ 64 by omega) (show C ≤ 64 by omega); omega
  have hrk : R * K ≤ 4096 := by have := Nat.mul_le_mul (show R ≤ 64 by omega) (show K ≤ 64 by omega); omega
  have hkc : K * C ≤ 4096 := by have := Nat.mul_le_mul (show K ≤ 64 by omega) (show C ≤ 64 by omega); omega
  have HNW := Lib.hid (fun w => shape_new (R := R) (C := C) w ⟨by omega, by omega⟩ ⟨by omega, by omega⟩)
  have HTN := Lib.hid (fun (W : World) (h : Below w.heap.size w W) => gemm_turned (R := K) (C := C) (hB.behind h) hy hn)
  have HIX : Hid (∀ k, k < R * C → k / C < R ∧ k % C < C ∧ k / C * K + K ≤ R * K ∧ k % C * K + K ≤ K * C) := Lib.hid (fun k hk => by
    have a1 : k / C < R := by rwa [Nat.div_lt_iff_lt_mul (by omega)]
    have a2 : k % C < C := Nat.mod_lt _ (by omega)
    have a3 := Nat.mul_le_mul_right K (show k / C + 1 ≤ R from a1)
    have a4 := Nat.mul_le_mul_right K (show k % C + 1 ≤ C from a2)
    rw [Nat.add_mul, Nat.one_mul] at a3 a4
    rw [Nat.mul_comm K C]
    exact ⟨a1, a2, a3, a4⟩)
  have HDE : Hid (∀ k, k < R * C → dotE (rowL xs K (k / C)) (rowL (trl K C ys) K (k % C)) = (if cls (prodG K C xs ys k) ≤ 1 then 0 else 13) ∧ (cls (prodG K C xs ys k) ≤ 1 → dotR (rowL xs K (k / C)) (rowL (trl K C ys) K (k % C)) = prodG K C xs ys k)) := Lib.hid (fun k hk => by
    obtain ⟨a1, a2, a3, a4⟩ := HIX.out k hk
    have hd := dot_fin (K := K) (fin_row (i := k / C) (C := K) hfx (by omega) (by omega)) (fin_row (i := k % C) (C := K) hft (by rw [trl_length]; exact a4) (by omega)) (rowL_length _ _ _) (rowL_length _ _ _)
    rw [col_row ys a2] at hd ⊢
    exact hd)
  have HLX := Lib.hid (fun i => rowL_low hx K i)
  have HLT := Lib.hid (fun i => rowL_low (xs := trl K C ys) (show Low 18446744073709551616 (rowV (K * C) fun k => lim ys (k % K * C + k / K)) from rowV_low fun k _ => by have := lim_lt hy (by decide : 0 < 18446744073709551616) (k % K * C + k / K); omega) K i)
  have HXN := Lib.hid (And.intro hmx hmn)
  have HTL : Hid ((trl K C ys).length = K * C) := Lib.hid (trl_length _ _ _)
  obtain ⟨S, hS, hR⟩ := hA
  obtain ⟨sa, sc, es, hcap, hof⟩ := hR.slice
  simp only [Value.slice.injEq] at es
  obtain ⟨rfl, -, rfl⟩ := es
  obtain ⟨off, rfl⟩ := hof (by rw [← hmx, hmn]; exact Nat.mul_pos (by omega) (by omega))
  have HRX := Lib.hid hR
  have hcp : m ≤ cap := by omega
  have hR64 : R ≤ 64 := by omega
  have hK64 : K ≤ 64 := by omega
  have hC64 : C ≤ 64 := by omega
  have hK0 : 0 < K := by omega
  have hC0 : 0 < C := by omega
  have hR0 : 0 < R := by omega
  obtain ⟨E, hE⟩ : ∃ E, E = tellV (prodM R K C xs ys) 0 := ⟨_, rfl⟩
  rw [← hE]
  have HED := Lib.hid hE
  obtain ⟨Z, hZ⟩ : ∃ Z, Z = if E = 0 then prodM R K C xs ys else [] := ⟨_, rfl⟩
  rw [← hZ]
  have HZD := Lib.hid hZ
  have HZL : Hid (zn (tab R C fun _ _ => 0) = zn (upd (prodG K C xs ys) (tab R C fun _ _ => 0) 0) ∧ (tab R C fun _ _ => 0).length = R * C) := Lib.hid ⟨by rw [upd_zero], tab_length _ _ _⟩
  have HPR : Hid (upd (prodG K C xs ys) (tab R C fun _ _ => 0) (R * C) = prodM R K C xs ys) := Lib.hid (by
    rw [show R * C = (tab R C fun _ _ => 0).length from (tab_length _ _ _).symm, upd_all, tab_length]; rfl)
  have HFB : Hid ((∀ j, j < R * C → cls (prodG K C xs ys j) ≤ 1) → E = 0) := Lib.hid (fun h => by
    rw [hE, tellV_yes, finB_iff.2 (fun j hj => by
      unfold prodM at hj ⊢
      rw [rowV_length] at hj
      rw [rowV_lim _ hj]; exact h j hj), if_pos rfl])
  have HFN : Hid (∀ j, j < R * C → ¬ cls (prodG K C xs ys j) ≤ 1 → E = 13) := Lib.hid (fun j hj h => by
    rw [hE, tellV_yes, finB_not (j := j) (by unfold prodM; rw [rowV_length]; exact hj) (by unfold prodM; rw [rowV_lim _ hj]; exact (by omega : 2 ≤ cls (prodG K C xs ys j))), if_neg (by decide)])
  have HGL := Lib.hid (prodG_lt K C xs ys)
  obtain ⟨b1, G1, G2, hw1⟩ := vboxm w #[.int .i64 (R : Int), .int .i64 (K : Int), .slice (some ⟨S, off, none⟩) m cap] #[.int .i64 (K : Int), .int .i64 (C : Int), .slice b n cap'] 24 24 _ rfl
  have b2 := bel_new ((w.alloc (.cells #[.int .i64 (R : Int), .int .i64 (K : Int), .slice (some ⟨S, off, none⟩) m cap] 24)).alloc (.cells #[.int .i64 (K : Int), .int .i64 (C : Int), .slice b n cap'] 24)) (.cells #[.int .i64 0, .int .i64 0, .slice none 0 0] 24)
  have G3 : Ms (((w.alloc (.cells #[.int .i64 (R : Int), .int .i64 (K : Int), .slice (some ⟨S, off, none⟩) m cap] 24)).alloc (.cells #[.int .i64 (K : Int), .int .i64 (C : Int), .slice b n cap'] 24)).alloc (.cells #[.int .i64 0, .int .i64 0, .slice none 0 0] 24)) (w.heap.size + 1 + 1) #[.int .i64 0, .int .i64 0, .slice none 0 0] 24 := by
    have := World.alloc_heap_new ((w.alloc (.cells #[.int .i64 (R : Int), .int .i64 (K : Int), .slice (some ⟨S, off, none⟩) m cap] 24)).alloc (.cells #[.int .i64 (K : Int), .int .i64 (C : Int), .slice b n cap'] 24)) (.cells #[.int .i64 0, .int .i64 0, .slice none 0 0] 24)
    simp only [World.size_alloc] at this
    exact this
  replace G1 := G1.behind b2
  replace G2 := G2.behind b2
  have B := below_both b1 b2
  have HRC := Lib.hid (And.intro hrc (And.intro hrk hkc))
  clear b1 b2 hw1 hB hx hy h1 h2 hm hn q1 q2 q3 q4 q5 q6 q7 q8 hmn hnn hfx hfy hft hrc hrk hkc hE hZ hmx hny hR hof hcap
  have c0 := G1.cell (i := 0) rfl
  have c1 := G1.cell (i := 1) rfl
  have c2 := G1.cell (i := 2) rfl
  have d0 := G2.cell (i := 0) rfl
  have d1 := G2.cell (i := 1) rfl
  have d2 := G2.cell (i := 2) rfl
  go_enter Try.func49, Try.ntmps49
  go_wp2_with fail
  generalize ((w.alloc (.cells #[.int .i64 (R : Int), .int .i64 (K : Int), .slice (some ⟨S, off, none⟩) m cap] 24)).alloc (.cells #[.int .i64 (K : Int), .int .i64 (C : Int), .slice b n cap'] 24)).alloc (.cells #[.int .i64 0, .int .i64 0, .slice none 0 0] 24) = W0 at *
  refine (HNW.out _).mono ?_
  rintro e w1 ⟨b8, c8, rfl, ho, b1⟩
  obtain ⟨d, c7, e7, hd1, hd2⟩ := ho.form (by rw [zn_length, HZL.out.2]; exact Nat.mul_pos hR0 hC0)
  rw [zn_length, HZL.out.2] at e7
  simp only [Value.slice.injEq] at e7
  obtain ⟨rfl, -, rfl⟩ := e7
  rw [HZL.out.1] at ho
  have HNN := Lib.hid HZL.out.2
  obtain ⟨k2, GO⟩ := mbox w1 #[.int .i64 (R : Int), .int .i64 (C : Int), .slice (some ⟨d, 0, none⟩) (R * C) c8] 24 _ rfl
  have B2 := below_both b1 k2
  have d0 := (G2.behind B2).cell (i := 0) rfl
  have d1 := (G2.behind B2).cell (i := 1) rfl
  have d2 := (G2.behind B2).cell (i := 2) rfl
  have ho2 := ho.alloc (.cells #[.int .i64 (R : Int), .int .i64 (C : Int), .slice (some ⟨d, 0, none⟩) (R * C) c8] 24)
  have hgO : d < w1.heap.size := hd2
  generalize hN : R * C = N at *
  have HNE := Lib.hid hN
  clear hN
  go_wp2_with fail
  refine (HTN.out _ (below_both B B2)).mono ?_
  rintro e w3 ⟨bT, cT, rfl, hNT, b3⟩
  obtain ⟨k4, GC⟩ := mbox w3 #[.int .i64 (C : Int), .int .i64 (K : Int), .slice bT (K * C) cT] 24 _ rfl
  have B4 := below_both b3 k4
  obtain ⟨T, hRT, hTl, hTo⟩ := hNT
  obtain ⟨ta, tc, et, hcapT, hofT⟩ := hRT.slice
  simp only [Value.slice.injEq] at et
  obtain ⟨rfl, -, rfl⟩ := et
  rw [HTL.out] at hcapT hofT
  obtain ⟨offT, rfl⟩ := hofT (Nat.mul_pos hK0 hC0)
  have hTn : (w1.alloc (.cells #[.int .i64 (R : Int), .int .i64 (C : Int), .slice (some ⟨d, 0, none⟩) N c8] 24)).heap.size ≤ T := hTo.resolve_left (fun e => by simp only [Value.slice.injEq] at e; simp at e)
  have hsz2 : (w1.alloc (.cells #[.int .i64 (R : Int), .int .i64 (C : Int), .slice (some ⟨d, 0, none⟩) N c8] 24)).heap.size = w1.heap.size + 1 := World.size_alloc _ _
  have hsz3 := b3.size
  have hsz4 : (w3.alloc (.cells #[.int .i64 (C : Int), .int .i64 (K : Int), .slice (some ⟨T, offT, none⟩) (K * C) cT] 24)).heap.size = w3.heap.size + 1 := World.size_alloc _ _
  have ho4 := ho2.below B4
  replace GO := GO.behind B4
  have G14 := G1.behind (below_both B2 B4)
  have G34 := G3.behind (below_both B2 B4)
  have BW4 := below_both B2 B4
  have hRT4 := hRT.kept (k4.block T hTl)
  have hB0 := B.size
  have hB2 := BW4.size
  clear b3 k4 hTo hofT
  have go2 := GO.cell (i := 2) rfl
  clear HNW HTN d0 d1 d2 c0 c1 c2 ho ho2
  go_wp2_with fail
  generalize w3.alloc (.cells #[.int .i64 (C : Int), .int .i64 (K : Int), .slice (some ⟨T, offT, none⟩) (K * C) cT] 24) = w4 at *
  have HWF : Hid (w.heap.size ≤ W0.heap.size ∧ w.heap.size + 1 + 1 < W0.heap.size ∧ W0.heap.size ≤ d ∧ d < w1.heap.size ∧ w1.heap.size < w3.heap.size ∧ T < w3.heap.size ∧ w1.heap.size < T ∧ S < w.heap.size ∧ w3.heap.size < w4.heap.size) := Lib.hid ⟨hB0, G3.lt, hd1, hgO, by omega, hTl, by omega, hS, by omega⟩
  have HGO := Lib.hid GO
  have HGC := Lib.hid GC
  have HG1 := Lib.hid G14
  have HG3 := Lib.hid G34
  have HRT := Lib.hid hRT4
  have HRX4 : Hid (RdAt S w4 (.slice (some ⟨S, off, none⟩) m cap) xs) := Lib.hid (HRX.out.kept ((below_both B BW4).block S hS))
  have HB := Lib.hid B
  clear hd1 hd2 hgO hTl hTn hsz2 hsz3 hsz4 hB0 hB2 GO GC G14 G34 hRT4 hRT G1 G2 G3 B B2 B4 HRX hS go2
  go_loopw [25] (fun i wr => ∃ k : Nat, k ≤ N ∧ i = .int .i64 k ∧ OwnK .u64 49 W0.heap.size wr (.slice (some ⟨d, 0, none⟩) N c8) (zn (upd (prodG K C xs ys) (tab R C fun _ _ => 0) k)) ∧ But d w4 wr ∧ Below W0.heap.size W0 wr ∧ Hid (∀ j, j < k → cls (prodG K C xs ys j) ≤ 1)) (fun i _ => N - (intOf i).toNat)
  case atStart => exact ⟨0, Nat.zero_le _, rfl, ho4, But.refl _ _, BW4, Lib.hid (fun j h => absurd h (by omega))⟩
  case round =>
    obtain ⟨k, hk, rfl, ho, hU, hB5, HQ⟩ := hrel
    have hgo := hU.ms HGO.out (by have := HWF.out; omega)
    have go0 : wr.cell? ⟨w1.heap.size, 0, none⟩ = some (.int .i64 (R : Int)) := hgo.cell (i := 0) rfl
    have go1 : wr.cell? ⟨w1.heap.size, 1, none⟩ = some (.int .i64 (C : Int)) := hgo.cell (i := 1) rfl
    have go2 : wr.cell? ⟨w1.heap.size, 2, none⟩ = some (.slice (some ⟨d, 0, none⟩) N c8) := hgo.cell (i := 2) rfl
    have hg3 := hU.ms HG3.out (by have := HWF.out; omega)
    by_cases hlt : k < N
    · obtain ⟨a1, a2, a3, a4⟩ := HIX.out k hlt
      have hRC := HRC.out
      have hgc := hU.ms HGC.out (by have := HWF.out; omega)
      have hg1 := hU.ms HG1.out (by have := HWF.out; omega)
      have hAx : Arg wr (.slice (some ⟨S, off, none⟩) m cap) xs := hU.arg (by have := HWF.out; omega) (by have := HWF.out; omega) HRX4.out
      have hAt : Arg wr (.slice (some ⟨T, offT, none⟩) (K * C) cT) (trl K C ys) := hU.arg (by have := HWF.out; omega) (by have := HWF.out; omega) HRT.out
      have hxl := HXN.out
      have r1 := row_arg (C := K) (i := k / C) hAx (by rw [← hxl.1, hxl.2]; exact a3) (by rw [← hxl.1]; exact hcp)
      have r2 := row_arg (C := K) (i := k % C) hAt (by rw [HTL.out]; exact a4) (by rw [HTL.out]; exact hcapT)
      have HR1 := Lib.hid (fun w => gemm_row (S := S) (off := off) (m := m) (cap := cap) (R := (R : Int)) (w := w) hK0 hK64 (show k / C ≤ 64 by omega) (by rw [hxl.2]; exact a3) hcp)
      have HR2 := Lib.hid (fun w => gemm_row (S := T) (off := offT) (m := K * C) (cap := cT) (R := (C : Int)) (w := w) hK0 hK64 (show k % C ≤ 64 by omega) a4 hcapT)
      have HDT := Lib.hid (fun (W : World) (h : Below wr.heap.size wr W) => vec_dot (r1.behind h) (r2.behind h) (HLX.out _) (HLT.out _) (by rw [rowL_length]; omega) (by rw [rowL_length]; omega))
      obtain ⟨e1, e2⟩ := HDE.out k hlt
      have hqw : IntKind.i64.wrap ((k : Int) / (C : Int)) = ((k / C : Nat) : Int) := by
        rw [← Int.natCast_ediv]
        have h9 := Nat.div_le_self k C
        have h8 := HRC.out.1
        generalize k / C = y at h9 ⊢
        exact IntWalk.i64_in _ (by omega)
      have hrw : (k : Int) % (C : Int) = ((k % C : Nat) : Int) := by rw [Int.natCast_emod]
      have hrt : (k : Int).tmod (C : Int) = ((k % C : Nat) : Int) := by first | exact (Int.ofNat_tmod k C).symm | exact (Int.natCast_tmod k C).symm | (rw [Int.tmod_eq_emod_of_nonneg (by omega)]; exact hrw)
      have HK : Hid (∀ W, Below wr.heap.size wr W → W.cell? ⟨w.heap.size, 0, none⟩ = some (.int .i64 (R : Int)) ∧ W.cell? ⟨w.heap.size, 1, none⟩ = some (.int .i64 (K : Int)) ∧ W.cell? ⟨w.heap.size, 2, none⟩ = some (.slice (some ⟨S, off, none⟩) m cap)
          ∧ W.cell? ⟨w1.heap.size, 1, none⟩ = some (.int .i64 (C : Int))
          ∧ W.cell? ⟨w3.heap.size, 0, none⟩ = some (.int .i64 (C : Int)) ∧ W.cell? ⟨w3.heap.size, 1, none⟩ = some (.int .i64 (K : Int)) ∧ W.cell? ⟨w3.heap.size, 2, none⟩ = some (.slice (some ⟨T, offT, none⟩) (K * C) cT)) := Lib.hid (fun W h =>
        ⟨(hg1.behind h).cell (i := 0) rfl, (hg1.behind h).cell (i := 1) rfl, (hg1.behind h).cell (i := 2) rfl, (hgo.behind h).cell (i := 1) rfl, (hgc.behind h).cell (i := 0) rfl, (hgc.behind h).cell (i := 1) rfl, (hgc.behind h).cell (i := 2) rfl⟩)
      have HS : Hid (zn (upd (prodG K C xs ys) (tab R C fun _ _ => 0) (k + 1)) = (zn (upd (prodG K C xs ys) (tab R C fun _ _ => 0) k)).set k (prodG K C xs ys k : Int)) := Lib.hid (by rw [upd_succ, zn_set])
      have ko := ho.cell (j := k) (by rw [zn_length, upd_length, HNN.out]; exact hlt)
      have HF1 := Lib.hid (HFN.out k)
      have hCz : ¬ C = 0 := by omega
      have hkN : (k : Int) < (N : Int) := by omega
      have hk4 : (k : Int) ≤ 4096 := by have := HRC.out.1; omega
      obtain ⟨q, hq⟩ : ∃ q, q = k / C := ⟨_, rfl⟩
      obtain ⟨r, hr⟩ : ∃ r, r = k % C := ⟨_, rfl⟩
      rw [← hq] at hqw HR1 HDT e1 e2
      rw [← hr] at hrw hrt HR2 HDT e1 e2
      have hq64 : (q : Int) ≤ 64 := by omega
      have hr64 : (r : Int) ≤ 64 := by omega
      have HE1 := Lib.hid e1
      have HE2 := Lib.hid e2
      have ho0 := ho
      clear r1 r2 hAx hAt a1 a2 a3 a4 hRC hxl e1 e2 hq hr go0 go2 hgc hg1
      generalize dotE (rowL xs K q) (rowL (trl K C ys) K r) = de at *
      generalize dotR (rowL xs K q) (rowL (trl K C ys) K r) = dr at *
      have Br : Below wr.heap.size wr wr := Below.refl _ _
      have hcut0 := hB5
      go_upto_region 6 with (fail)
      go_cut [10, 11] from 28 to 43 (fun u v wx => u = .int .u64 (dr : Int) ∧ v = .int .i64 de ∧ Below wr.heap.size wr wx)
      case first =>
       as_aux_lemma =>
        go_region_held3 (fun W => W.cell? ⟨w.heap.size, 0, none⟩ = some (.int .i64 (R : Int)) ∧ W.cell? ⟨w.heap.size, 1, none⟩ = some (.int .i64 (K : Int)) ∧ W.cell? ⟨w.heap.size, 2, none⟩ = some (.slice (some ⟨S, off, none⟩) m cap)
          ∧ W.cell? ⟨w1.heap.size, 1, none⟩ = some (.int .i64 (C : Int))
          ∧ W.cell? ⟨w3.heap.size, 0, none⟩ = some (.int .i64 (C : Int)) ∧ W.cell? ⟨w3.heap.size, 1, none⟩ = some (.int .i64 (K : Int)) ∧ W.cell? ⟨w3.heap.size, 2, none⟩ = some (.slice (some ⟨T, offT, none⟩) (K * C) cT))
          (first | with_reducible exact HK.out _ Br | with_reducible exact HK.out _ Br.drew | (refine ⟨?_, ?_, ?_, ?_, ?_, ?_, ?_⟩ <;> go_keep))
          (first
            | (go_at_call 75; (with_reducible refine (HR1.out _).mono ?_); rintro e v4 ⟨rfl, bz⟩; replace Br : Below wr.heap.size wr v4 := (by first | with_reducible exact below_both Br bz | with_reducible exact below_both Br.drew bz); clear bz)
            | (go_at_call 75; (with_reducible refine (HR2.out _).mono ?_); rintro e v5 ⟨rfl, bz⟩; replace Br : Below wr.heap.size wr v5 := (by first | with_reducible exact below_both Br bz | with_reducible exact below_both Br.drew bz); clear bz)
            | (go_at_call 74; (with_reducible refine (HDT.out _ (by first | with_reducible exact Br | with_reducible exact Br.drew)).mono ?_); rintro e v6 ⟨rfl, bz⟩; replace Br : Below wr.heap.size wr v6 := (by first | with_reducible exact below_both Br bz | with_reducible exact below_both Br.drew bz); clear bz))
        all_goals
          go_wp2_with fail
          go_meet
          exact ⟨rfl, rfl, Br⟩
      obtain ⟨rfl, rfl, hB6⟩ := hcut
      have ho5 := ho0.below hB6
      have hU5 := hU.below hB6
      have ko5 := (hB6.cell (p := ⟨d, k, none⟩) (World.ownsRow.lt ho0 d rfl).2).trans ko
      have kf5 := ho5.frozen k
      have g3 := hg3.behind hB6
      have g0' := (hgo.behind hB6)
      have g32 : wc.cell? ⟨w1.heap.size, 2, none⟩ = some (.slice (some ⟨d, 0, none⟩) N c8) := g0'.cell (i := 2) rfl
      have HBc := Lib.hid (below_both HB.out (hB5.trans (hB6.mono hB5.size)))
      by_cases hc : cls (prodG K C xs ys k) ≤ 1
      · as_aux_lemma =>
          have hde : de = 0 := by rw [HE1.out, if_pos hc]
          have hdr : dr = prodG K C xs ys k := HE2.out hc
          subst hde
          have HQ2 : Hid (∀ j, j < k + 1 → cls (prodG K C xs ys j) ≤ 1) := Lib.hid (fun j hj => by
            rcases Nat.lt_or_ge j k with h | h
            · exact HQ.out j h
            · obtain rfl : j = k := by omega
              exact hc)
          rw [← hdr] at HS
          clear hc hdr g3 HE1 HE2 HF1 HDT HR1 HR2 HK
          go_wp2
          exact ⟨⟨k + 1, by omega, by simp, by rw [HS.out]; exact ho5.set k _, hU5.set k _, (hB5.trans (hB6.mono hB5.size)).setCell (p := ⟨d, k, none⟩) HWF.out.2.2.1 _, Lib.hid HQ2.out⟩, by simp [intOf]; omega⟩
      · as_aux_lemma =>
          have hde : de = 13 := by rw [HE1.out, if_neg hc]
          subst hde
          have HT : Hid (E = 13) := Lib.hid (HF1.out hlt hc)
          have g30 := g3.cell (i := 0) rfl
          have g31 := g3.cell (i := 1) rfl
          have g33 := g3.cell (i := 2) rfl
          have f0 := g3.f 0
          have f1 := g3.f 1
          have f2 := g3.f 2
          clear hc HE1 HE2 HF1 HDT HR1 HR2 HK
          go_wp2
          exact bodyPost_ret (v := .tuple #[.agg #[.int .i64 0, .int .i64 0, .slice none 0 0], .int .i64 13]) (by simp [results, Try.results49, go_sem, g30, g31, g33]) rfl
            ⟨0, 0, none, 0, 0, by rw [HT.out], by rw [HZD.out, if_neg (by rw [HT.out]; decide)]; exact new_nil _ hpos (HBc.out.put3 (by omega) _ _ _), ⟨fun h => absurd (HT.out.symm.trans h) (by decide), fun _ => ⟨rfl, rfl⟩⟩, HBc.out.put3 (by omega) _ _ _⟩
    · as_aux_lemma =>
        obtain rfl : k = N := by omega
        clear hlt
        have ho6 := ho
        rw [show upd (prodG K C xs ys) (tab R C fun _ _ => 0) k = prodM R K C xs ys from HPR.out] at ho6
        have hWp : 0 < wr.heap.size := by have := hB5.size; have := HWF.out; omega
        have hNew := new_zn.2 (ho6.new hWp)
        have HNEW := Lib.hid hNew
        have HT : Hid (E = 0) := Lib.hid (HFB.out HQ.out)
        have g30 := hg3.cell (i := 0) rfl
        have g31 := hg3.cell (i := 1) rfl
        have g33 := hg3.cell (i := 2) rfl
        have f0 := hg3.f 0
        have f1 := hg3.f 1
        have f2 := hg3.f 2
        have HBc := Lib.hid (below_both HB.out hB5)
        clear ho ho6 hNew hU hgo hg3
        go_wp2
        exact bodyPost_ret (v := .tuple #[.agg #[.int .i64 (R : Int), .int .i64 (C : Int), .slice (some ⟨d, 0, none⟩) k c8], .int .i64 0]) (by simp [results, Try.results49, go_sem, g30, g31, g33]) rfl
          ⟨R, C, _, _, _, by rw [HT.out], by rw [HZD.out, if_pos HT.out]; exact (HNEW.out.put3 (by have := HWF.out; omega) _ _ _).lower HWF.out.1, ⟨fun _ => ⟨rfl, rfl⟩, fun h => absurd HT.out h⟩, HBc.out.put3 (by omega) _ _ _⟩
theorem gemm_multiply {R K C : Nat} {a b : Option Addr} {m n cap cap' : Nat} {xs ys : List Nat} {w : World} (hA : Arg w (.slice a m cap) xs) (hB : Arg w (.slice b n cap') ys) (hx : Low 18446744073709551616 xs) (hy : Low 18446744073709551616 ys)
    (h1 : finM R K m xs = 0) (h2 : finM K C n ys = 0) :
    Calls Try.prog 49 #[.agg #[.int .i64 (R : Int), .int .i64 (K : Int), .slice a m cap], .agg #[.int .i64 (K : Int), .int .i64 (C : Int), .slice b n cap']] w fun e W' => ∃ R2 C2 b2 n2 c2, e = .returned (.tuple #[.agg #[.int .i64 R2, .int .i64 C2, .slice b2 n2 c2], .int .i64 (tellV (prodM R K C xs ys) 0)]) ∧ New w.heap.size W' (.slice b2 n2 c2) (if tellV (prodM R K C xs ys) 0 = 0 then prodM R K C xs ys else []) ∧ (tellV (prodM R K C xs ys) 0 = 0 → R2 = R ∧ C2 = C) ∧ Below w.heap.size w W' :=
  (gemm_multiply0 hA hB hx hy h1 h2).mono (by rintro e W' ⟨R2, C2, b, n, c, h1, h2, h3, h4⟩; exact ⟨R2, C2, b, n, c, h1, h2, h3.1, h4⟩)
end Go.Proofs.Ytjapilpjahhimaa

/- gemm: Mul. -/
namespace Go.Proofs.Ytjapilpjahhimaa
open Go.RowKit Go.Shelf
def mulF (R K : Int) (m : Nat) (xs : List Nat) (K' C : Int) (n : Nat) (ys : List Nat) : Int := firstE (finM R K m xs) (finM K' C n ys) (if K ≠ K' then 11 else 0)
def mulP (R K C : Int) (xs ys : List Nat) : List Nat := prodM R.toNat K.toNat C.toNat xs ys
set_option maxRecDepth 100000 in
set_option maxHeartbeats 16000000 in
theorem gemm_mul0 {R C R' C' : Int} {a a' : Option Addr} {m m' cap cap' : Nat} {xs ys : List Nat} {w : World} (hA : Arg w (.slice a m cap) xs) (hA' : Arg w (.slice a' m' cap') ys) (hx : Low 18446744073709551616 xs) (hy : Low 18446744073709551616 ys) :
    Calls Try.prog 17 #[.agg #[.int .i64 R, .int .i64 C, .slice a m cap], .agg #[.int .i64 R', .int .i64 C', .slice a' m' cap']] w fun e W' => ∃ R2 C2 b n c, e = .returned (.tuple #[.agg #[.int .i64 R2, .int .i64 C2, .slice b n c], .int .i64 (tellV (mulP R C C' xs ys) (mulF R C m xs R' C' m' ys))]) ∧ New w.heap.size W' (.slice b n c) (if tellV (mulP R C C' xs ys) (mulF R C m xs R' C' m' ys) = 0 then mulP R C C' xs ys else []) ∧ ((tellV (mulP R C C' xs ys) (mulF R C m xs R' C' m' ys) = 0 → R2 = R ∧ C2 = C') ∧ (tellV (mulP R C C' xs ys) (mulF R C m xs R' C' m' ys) ≠ 0 → R2 = 0 ∧ C2 = 0)) ∧ Below w.heap.size w W' := by
  have h1 := fun (W : World) (h : Below w.heap.size w W) => shape_finite (R := R) (C := C) (hA.behind h) hx
  have h2 := fun (W : World) (h : Below w.heap.size w W) => shape_finite (R := R') (C := C') (hA'.behind h) hy
  have HWAY := firstE_ways (finM R C m xs) (finM R' C' m' ys) ((if C ≠ R' then 11 else 0))
  have hpos : 0 < w.heap.size := by obtain ⟨S, hS, _⟩ := hA; omega
  obtain ⟨b1, G1, G, hw1⟩ := vboxm w #[.int .i64 R, .int .i64 C, .slice a m cap] #[.int .i64 R', .int .i64 C', .slice a' m' cap'] 24 24 _ rfl
  have b2 := bel_new ((w.alloc (.cells #[.int .i64 R, .int .i64 C, .slice a m cap] 24)).alloc (.cells #[.int .i64 R', .int .i64 C', .slice a' m' cap'] 24)) (.cells #[.int .i64 0, .int .i64 0, .slice none 0 0] 24)
  have G2 : Ms (((w.alloc (.cells #[.int .i64 R, .int .i64 C, .slice a m cap] 24)).alloc (.cells #[.int .i64 R', .int .i64 C', .slice a' m' cap'] 24)).alloc (.cells #[.int .i64 0, .int .i64 0, .slice none 0 0] 24)) (w.heap.size + 1 + 1) #[.int .i64 0, .int .i64 0, .slice none 0 0] 24 := by
    have := World.alloc_heap_new ((w.alloc (.cells #[.int .i64 R, .int .i64 C, .slice a m cap] 24)).alloc (.cells #[.int .i64 R', .int .i64 C', .slice a' m' cap'] 24)) (.cells #[.int .i64 0, .int .i64 0, .slice none 0 0] 24)
    simp only [World.size_alloc] at this
    exact this
  replace G1 := G1.behind b2
  replace G := G.behind b2
  have B0 := below_both b1 b2
  clear b1 b2 hw1
  have H1 := Lib.hid h1
  have H2 := Lib.hid h2
  clear h1 h2
  have x0 : ∀ w : World, (Instr.index 71 (.agg #[.int .i64 R, .int .i64 C, .slice a m cap, .int .i64 R', .int .i64 C', .slice a' m' cap']) (.int .i64 0)).run Try.prog w = .ok (.agg #[.int .i64 R, .int .i64 C, .slice a m cap]) w := fun _ => by kernel_rfl
  have x1 : ∀ w : World, (Instr.index 71 (.agg #[.int .i64 R, .int .i64 C, .slice a m cap, .int .i64 R', .int .i64 C', .slice a' m' cap']) (.int .i64 1)).run Try.prog w = .ok (.agg #[.int .i64 R', .int .i64 C', .slice a' m' cap']) w := fun _ => by kernel_rfl
  have k0 := G1.cell (i := 0) rfl
  have k1 := G1.cell (i := 1) rfl
  have k2 := G1.cell (i := 2) rfl
  have k3 := G.cell (i := 0) rfl
  have k4 := G.cell (i := 1) rfl
  have k5 := G.cell (i := 2) rfl
  generalize hea : finM R C m xs = ea at *
  generalize heb : finM R' C' m' ys = eb at *
  have HE := Lib.hid (And.intro hea heb)
  have HPF := Lib.hid (show mulF R C m xs R' C' m' ys = firstE ea eb ((if C ≠ R' then 11 else 0)) by unfold mulF; rw [hea, heb])
  clear hea heb
  have HZ : Hid (∀ E, E = tellV (mulP R C C' xs ys) (mulF R C m xs R' C' m' ys) → E ≠ 0 → (if E = 0 then mulP R C C' xs ys else []) = []) := Lib.hid (fun E _ h => if_neg h)
  have HY : Hid (∀ E, E = 0 → (if E = (0 : Int) then mulP R C C' xs ys else []) = mulP R C C' xs ys) := Lib.hid (fun E h => if_pos h)
  have HEE := Lib.hid (show tellV (mulP R C C' xs ys) (mulF R C m xs R' C' m' ys) = tellV (mulP R C C' xs ys) (mulF R C m xs R' C' m' ys) from rfl)
  obtain ⟨E, hE⟩ : ∃ E, E = tellV (mulP R C C' xs ys) (mulF R C m xs R' C' m' ys) := ⟨_, rfl⟩
  rw [← hE]
  have HED := Lib.hid hE
  obtain ⟨Z, hZ⟩ : ∃ Z, Z = if E = 0 then mulP R C C' xs ys else [] := ⟨_, rfl⟩
  rw [← hZ]
  have HZD := Lib.hid hZ
  clear hE hZ HZ HY HEE
  go_enter Try.func17, Try.ntmps17
  go_wp2
  generalize ((w.alloc (.cells #[.int .i64 R, .int .i64 C, .slice a m cap] 24)).alloc (.cells #[.int .i64 R', .int .i64 C', .slice a' m' cap'] 24)).alloc (.cells #[.int .i64 0, .int .i64 0, .slice none 0 0] 24) = W0 at *
  go_loopw [12] (fun i wr => ∃ (k : Nat) (z : Int), k ≤ 2 ∧ z = k ∧ i = .int .i64 z ∧ Hid (1 ≤ k → ea = 0) ∧ Hid (2 ≤ k → eb = 0) ∧ Below W0.heap.size W0 wr) (fun i _ => 2 - (intOf i).toNat)
  case atStart => exact ⟨0, 0, by omega, rfl, rfl, Lib.hid (fun h => absurd h (by decide)), Lib.hid (fun h => absurd h (by decide)), Below.refl _ _⟩
  case round =>
    obtain ⟨k, z, hk, hz, rfl, HE1, HE2, hB⟩ := hrel
    have hBw := below_both B0 hB
    rcases (show k = 0 ∨ k = 1 ∨ k = 2 by omega) with rfl | rfl | rfl
    · obtain rfl : z = 0 := hz
      by_cases he : ea = 0
      · have HE := Lib.hid he
        have d : (ea != 0) = false := by simp [he]
        clear he
        go_wp2_with fail
        have bA := bel_new wr (.cells #[.int .i64 R, .int .i64 C, .slice a m cap] 24)
        refine (H1.out _ (below_both hBw bA)).mono ?_
        rintro e w2 ⟨rfl, b2⟩
        go_wp2
        go_roundw
        case rel => exact ⟨1, 1, by omega, rfl, rfl, Lib.hid (fun _ => HE.out), Lib.hid (fun h => absurd h (by decide)), below_both hB (below_both bA b2)⟩
        case measure => simp [intOf]
      · have d : (ea != 0) = true := bne_iff_ne.2 he
        have HT : Hid (E = ea ∧ ea ≠ 0) := Lib.hid ⟨by
          rw [HED.out, HPF.out]
          rcases HWAY with ⟨_, h⟩ | ⟨h, _⟩ | ⟨h, _⟩
          · rw [h]; unfold tellV; rw [if_pos he]
          · exact absurd h he
          · exact absurd h he, he⟩
        clear he
        go_wp2_with fail
        have bA := bel_new wr (.cells #[.int .i64 R, .int .i64 C, .slice a m cap] 24)
        refine (H1.out _ (below_both hBw bA)).mono ?_
        rintro e w2 ⟨rfl, b2⟩
        have hB2 := below_both hB (below_both bA b2)
        have G4 := G2.behind hB2
        have g0 := G4.cell (i := 0) rfl
        have g1 := G4.cell (i := 1) rfl
        have g2 := G4.cell (i := 2) rfl
        have f0 := G4.f 0
        have f1 := G4.f 1
        have f2 := G4.f 2
        have HB2 := Lib.hid (below_both B0 hB2)
        go_wp2
        exact bodyPost_ret (v := .tuple #[.agg #[.int .i64 0, .int .i64 0, .slice none 0 0], .int .i64 ea]) (by simp [results, Try.results17, go_sem, g0, g1, g2]) rfl
          ⟨0, 0, none, 0, 0, by rw [HT.out.1], by rw [HZD.out, if_neg (by rw [HT.out.1]; exact HT.out.2)]; exact new_nil _ hpos (HB2.out.put3 (by omega) _ _ _), ⟨fun h => absurd (HT.out.1.symm.trans h) HT.out.2, fun _ => ⟨rfl, rfl⟩⟩, HB2.out.put3 (by omega) _ _ _⟩
    · obtain rfl : z = 1 := hz
      have ha0 := HE1.out (by omega)
      by_cases he : eb = 0
      · have HE := Lib.hid he
        have HEA := Lib.hid ha0
        have d : (eb != 0) = false := by simp [he]
        clear he ha0
        go_wp2_with fail
        have bA := bel_new wr (.cells #[.int .i64 R', .int .i64 C', .slice a' m' cap'] 24)
        refine (H2.out _ (below_both hBw bA)).mono ?_
        rintro e w2 ⟨rfl, b2⟩
        go_wp2
        go_roundw
        case rel => exact ⟨2, 2, by omega, rfl, rfl, Lib.hid (fun _ => HEA.out), Lib.hid (fun _ => HE.out), below_both hB (below_both bA b2)⟩
        case measure => simp [intOf]
      · have d : (eb != 0) = true := bne_iff_ne.2 he
        have HT : Hid (E = eb ∧ eb ≠ 0) := Lib.hid ⟨by
          rw [HED.out, HPF.out]
          rcases HWAY with ⟨h, _⟩ | ⟨_, _, h⟩ | ⟨_, h, _⟩
          · exact absurd ha0 h
          · rw [h]; unfold tellV; rw [if_pos he]
          · exact absurd h he, he⟩
        clear he ha0
        go_wp2_with fail
        have bA := bel_new wr (.cells #[.int .i64 R', .int .i64 C', .slice a' m' cap'] 24)
        refine (H2.out _ (below_both hBw bA)).mono ?_
        rintro e w2 ⟨rfl, b2⟩
        have hB2 := below_both hB (below_both bA b2)
        have G4 := G2.behind hB2
        have g0 := G4.cell (i := 0) rfl
        have g1 := G4.cell (i := 1) rfl
        have g2 := G4.cell (i := 2) rfl
        have f0 := G4.f 0
        have f1 := G4.f 1
        have f2 := G4.f 2
        have HB2 := Lib.hid (below_both B0 hB2)
        go_wp2
        exact bodyPost_ret (v := .tuple #[.agg #[.int .i64 0, .int .i64 0, .slice none 0 0], .int .i64 eb]) (by simp [results, Try.results17, go_sem, g0, g1, g2]) rfl
          ⟨0, 0, none, 0, 0, by rw [HT.out.1], by rw [HZD.out, if_neg (by rw [HT.out.1]; exact HT.out.2)]; exact new_nil _ hpos (HB2.out.put3 (by omega) _ _ _), ⟨fun h => absurd (HT.out.1.symm.trans h) HT.out.2, fun _ => ⟨rfl, rfl⟩⟩, HB2.out.put3 (by omega) _ _ _⟩
    · obtain rfl : z = 2 := hz
      have ha0 := HE1.out (by omega)
      have hb0 := HE2.out (by omega)
      replace G1 := G1.behind hB
      replace G := G.behind hB
      have k0 := G1.cell (i := 0) rfl
      have k1 := G1.cell (i := 1) rfl
      have k2 := G1.cell (i := 2) rfl
      have k3 := G.cell (i := 0) rfl
      have k4 := G.cell (i := 1) rfl
      have k5 := G.cell (i := 2) rfl
      have HA0 := Lib.hid (And.intro ha0 hb0)
      have hF3 : Hid (firstE ea eb (if C ≠ R' then 11 else 0) = (if C ≠ R' then 11 else 0)) := Lib.hid (by
        rcases HWAY with ⟨h, _⟩ | ⟨_, h, _⟩ | ⟨_, _, h⟩
        · exact absurd HA0.out.1 h
        · exact absurd HA0.out.2 h
        · exact h)
      clear ha0 hb0 x0 x1
      by_cases hRC : C = R'
      · have hm := (finM_ok (HE.out.1.trans HA0.out.1)).1
        have hm' := (finM_ok (HE.out.2.trans HA0.out.2)).1
        obtain ⟨q1, q2, q3, q4, q5⟩ := mayM_iff.1 hm
        obtain ⟨_, _, q6, q7, q8⟩ := mayM_iff.1 hm'
        have HF0 : Hid (E = tellV (mulP R C C' xs ys) 0) := Lib.hid (by rw [HED.out, HPF.out, hF3.out, if_neg (by simp [hRC])])
        subst hRC
        obtain ⟨r, rfl⟩ : ∃ r : Nat, R = r := ⟨R.toNat, by omega⟩
        obtain ⟨c, rfl⟩ : ∃ r : Nat, C = r := ⟨C.toNat, by omega⟩
        obtain ⟨c', rfl⟩ : ∃ r : Nat, C' = r := ⟨C'.toNat, by omega⟩
        have HM := Lib.hid (gemm_multiply0 (R := r) (K := c) (C := c') (hA.behind hBw) (hA'.behind hBw) hx hy (HE.out.1.trans HA0.out.1) (HE.out.2.trans HA0.out.2))
        rw [show prodM r c c' xs ys = mulP r c c' xs ys from rfl, ← HF0.out, ← HZD.out] at HM
        have hq : ((c : Int) != (c : Int)) = false := by simp
        clear hm hm' q1 q2 q3 q4 q5 q6 q7 q8 hA hA' hx hy H1 H2 hF3 HWAY HE HPF HF0
        go_wp2_with fail
        refine HM.out.mono ?_
        rintro e w3 ⟨R2, C2, b8, n8, c8, rfl, hN, hR, b3⟩
        have G4 := G2.behind (below_both hB b3)
        have g0 := G4.cell (i := 0) rfl
        have g1 := G4.cell (i := 1) rfl
        have g2 := G4.cell (i := 2) rfl
        have f0 := G4.f 0
        have f1 := G4.f 1
        have f2 := G4.f 2
        have HB := Lib.hid (below_both hBw b3)
        have HNN := Lib.hid hN
        have HRR := Lib.hid hR
        have HSZ : Hid (w.heap.size + 1 + 1 < wr.heap.size) := Lib.hid (by have := G2.lt; have := hB.size; omega)
        clear hN hR b3 G4
        go_wp2
        exact bodyPost_ret (v := .tuple #[.agg #[.int .i64 R2, .int .i64 C2, .slice b8 n8 c8], .int .i64 E]) (by simp [results, Try.results17, go_sem, g0, g1, g2]) rfl
          ⟨R2, C2, b8, n8, c8, rfl, (HNN.out.put3 HSZ.out _ _ _).lower hBw.size, HRR.out, HB.out.put3 (by omega) _ _ _⟩
      · have HT : Hid (E = 11) := Lib.hid (by
          rw [HED.out, HPF.out, hF3.out, if_pos hRC]
          rfl)
        have d : (C != R') = true := bne_iff_ne.2 hRC
        clear hRC
        have G4 := G2.behind hB
        have g0 := G4.cell (i := 0) rfl
        have g1 := G4.cell (i := 1) rfl
        have g2 := G4.cell (i := 2) rfl
        have f0 := G4.f 0
        have f1 := G4.f 1
        have f2 := G4.f 2
        have HB2 := Lib.hid hBw
        go_wp2
        exact bodyPost_ret (v := .tuple #[.agg #[.int .i64 0, .int .i64 0, .slice none 0 0], .int .i64 11]) (by simp [results, Try.results17, go_sem, g0, g1, g2]) rfl
          ⟨0, 0, none, 0, 0, by rw [HT.out], by rw [HZD.out, if_neg (by rw [HT.out]; decide)]; exact new_nil _ hpos (HB2.out.put3 (by omega) _ _ _), ⟨fun h => absurd (HT.out.symm.trans h) (by decide), fun _ => ⟨rfl, rfl⟩⟩, HB2.out.put3 (by omega) _ _ _⟩
theorem gemm_mul {R C R' C' : Int} {a a' : Option Addr} {m m' cap cap' : Nat} {xs ys : List Nat} {w : World} (hA : Arg w (.slice a m cap) xs) (hA' : Arg w (.slice a' m' cap') ys) (hx : Low 18446744073709551616 xs) (hy : Low 18446744073709551616 ys) :
    Calls Try.prog 17 #[.agg #[.int .i64 R, .int .i64 C, .slice a m cap], .agg #[.int .i64 R', .int .i64 C', .slice a' m' cap']] w fun e W' => ∃ R2 C2 b n c, e = .returned (.tuple #[.agg #[.int .i64 R2, .int .i64 C2, .slice b n c], .int .i64 (tellV (mulP R C C' xs ys) (mulF R C m xs R' C' m' ys))]) ∧ New w.heap.size W' (.slice b n c) (if tellV (mulP R C C' xs ys) (mulF R C m xs R' C' m' ys) = 0 then mulP R C C' xs ys else []) ∧ (tellV (mulP R C C' xs ys) (mulF R C m xs R' C' m' ys) = 0 → R2 = R ∧ C2 = C') ∧ Below w.heap.size w W' :=
  (gemm_mul0 hA hA' hx hy).mono (by rintro e W' ⟨R2, C2, b, n, c, h1, h2, h3, h4⟩; exact ⟨R2, C2, b, n, c, h1, h2, h3.1, h4⟩)
end Go.Proofs.Ytjapilpjahhimaa
