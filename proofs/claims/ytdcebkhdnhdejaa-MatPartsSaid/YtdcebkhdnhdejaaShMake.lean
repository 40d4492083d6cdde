/- shape: matrices that are made: build, Identity, Transpose; At; Same. -/
import Derived.Test.YtdcebkhdnhdejaaShSpec
namespace Go.Proofs.Ytdcebkhdnhdejaa
open Go.RowKit Go.Shelf
set_option maxRecDepth 100000 in
set_option maxHeartbeats 4000000 in
/-- build, with a closure that tells the word of each place -/
theorem shape_build {R C k : Nat} {fs : Array Value} (g : Nat → Nat → Nat) {w : World} (hR : 1 ≤ R ∧ R ≤ 64) (hC : 1 ≤ C ∧ C ≤ 64)
    (he : Enters k) (hf : ∀ (i j : Nat) (W : World), i < R → j < C → Below w.heap.size w W → Calls Try.prog k (#[.int .i64 (i : Int), .int .i64 (j : Int)] ++ fs) W fun e W' => e = .returned (.int .u64 (g i j : Int)) ∧ Below W.heap.size W W') :
    Calls Try.prog 85 #[.int .i64 (R : Int), .int .i64 (C : Int), .func (.func k) #[] fs] w fun e W' => ∃ b c, e = .returned (.tuple #[.agg #[.int .i64 (R : Int), .int .i64 (C : Int), .slice b (R * C) c], .int .i64 0]) ∧ New w.heap.size W' (.slice b (R * C) c) (tab R C g) ∧ Below w.heap.size w W' := by
  obtain ⟨bx, G⟩ := mbox w #[.int .i64 0, .int .i64 0, .slice none 0 0] 24 _ rfl
  have hms : ∀ w, Calls Try.prog 57 #[.int .i64 (R : Int), .int .i64 (C : Int)] w fun e W' => e = .returned (.bool true) ∧ w = W' := fun w => by
    have := shape_may (R := R) (C := C) (w := w)
    rwa [mayS_iff.2 ⟨by omega, by omega, by omega, by omega⟩] at this
  have hrc : R * C ≤ 4096 := by have := Nat.mul_le_mul hR.2 hC.2; omega
  have hwp : IntKind.i64.wrap ((R : Int) * (C : Int)) = ((R * C : Nat) : Int) := by rw [Int.natCast_mul]; exact IntWalk.i64_in _ (by omega)
  have hmk := make0_u64 (R * C) (by omega)
  have HF := Lib.hid hf
  have HOWN := Lib.hid (own0_u64 (R * C) (by omega))
  have HEN := Lib.hid he
  clear hf he
  have hw0 : w.heap.size < (w.alloc (.cells #[.int .i64 0, .int .i64 0, .slice none 0 0] 24)).heap.size := by rw [World.size_alloc]; omega
  generalize hN : R * C = N at *
  have HN := Lib.hid hN
  clear hN
  go_enter Try.func85, Try.ntmps85
  go_wp2_with fail
  generalize w.alloc (.cells #[.int .i64 0, .int .i64 0, .slice none 0 0] 24) = W0 at *
  have hm1 := hmk W0
  clear hmk
  refine (hms _).mono ?_
  rintro e w1 ⟨rfl, rfl⟩
  clear hms
  go_wp2
  have hown1 := HOWN.out W0
  clear hm1 HOWN
  have hB1 : Below W0.heap.size W0 (W0.alloc (.cells (madeCells #[.int .u64 0] N) 32)) := (Below.refl _ W0).alloc (Nat.le_refl _) _
  generalize W0.alloc (.cells (madeCells #[.int .u64 0] N) 32) = W1 at *
  go_loopw [8, 21] (fun d i wr => ∃ q : Nat, q ≤ R ∧ i = .int .i64 q ∧ OwnK .u64 32 W0.heap.size wr d (zn (pre C g (q * C))) ∧ Below W0.heap.size W0 wr) (fun _ i _ => R - (intOf i).toNat)
  case atStart => exact ⟨0, Nat.zero_le _, rfl, by rw [Nat.zero_mul, pre_zero]; exact hown1, hB1⟩
  case round =>
    obtain ⟨q, hq, rfl, hown, hB⟩ := hrel
    by_cases hlt : q < R
    · go_wp2
      have hown0 : OwnK .u64 32 W0.heap.size wr u8 (zn (pre C g (q * C + 0))) := hown
      have hqc : q * C + C ≤ N := by
        have := Nat.mul_le_mul_right C (show q + 1 ≤ R from hlt)
        rw [Nat.add_mul, Nat.one_mul, HN.out] at this
        omega
      clear hown
      obtain ⟨wo, rfl⟩ : ∃ wo : World, wo = wr := ⟨_, rfl⟩
      go_loopw [8, 25] (fun d j wi => ∃ r : Nat, r ≤ C ∧ j = .int .i64 r ∧ OwnK .u64 32 W0.heap.size wi d (zn (pre C g (q * C + r))) ∧ Below W0.heap.size W0 wi) (fun _ j _ => C - (intOf j).toNat)
      case atStart => exact ⟨0, Nat.zero_le _, rfl, hown0, hB⟩
      case round =>
        obtain ⟨r, hr, rfl, hownr, hBr⟩ := hrel
        by_cases hrt : r < C
        · have hc := HF.out q r wr hlt hrt (below_both bx hBr)
          have hen := HEN.out (#[.int .i64 (q : Int), .int .i64 (r : Int)] ++ fs) wr
          have HS := Lib.hid (pre_snoc (C := C) (i := q) g hrt)
          have hlen : (zn (pre C g (q * C + r))).length + 1 ≤ 17592186044416 := by rw [zn_length, pre_length]; omega
          go_wp2_with fail
          refine hc.mono ?_
          rintro e w2 ⟨rfl, b2⟩
          clear hc hen
          replace hBr := below_both hBr b2
          have hown2 := hownr.below b2
          go_wp2_with (at_builtin; refine app_u64 rfl _ _ rfl rfl rfl (cell_new1 _ _ _) (hown2.alloc _) hlen (by have := hBr.size; simp; omega) ?_; intro v' w3 hown3 hb3)
          go_roundw
          case rel => exact ⟨r + 1, by omega, by simp, by rw [← Nat.add_assoc, HS.out, zn_snoc]; exact hown3, (hBr.alloc hBr.size _).trans hb3⟩
          case measure => simp [intOf]; omega
        · obtain rfl : r = C := by omega
          clear hrt
          go_wp2
          go_roundw
          case rel => exact ⟨q + 1, by omega, by simp, by rw [Nat.add_mul, Nat.one_mul]; exact hownr, hBr⟩
          case measure => simp [intOf]; omega
    · obtain rfl : q = R := by omega
      clear hlt
      rw [HN.out] at hown
      have hnew := new_zn.2 (hown.new (Nat.lt_of_le_of_lt (Nat.zero_le _) (Nat.lt_of_lt_of_le hw0 hB.size)))
      have hN2 : (zn (pre C g N)).length = N := by rw [zn_length, pre_length]
      obtain ⟨a8, c8, e8⟩ := hown.len
      rw [hN2] at e8
      have G1 := G.below hB hw0
      have g0 := G1.cell (i := 0) rfl
      have g1 := G1.cell (i := 1) rfl
      have g2 := G1.cell (i := 2) rfl
      have f0 := G1.f 0
      have f1 := G1.f 1
      have f2 := G1.f 2
      subst e8
      have HNEW := Lib.hid hnew
      clear hnew hN2 hown hown1
      go_wp2
      exact bodyPost_ret (v := .tuple #[.agg #[.int .i64 (q : Int), .int .i64 (C : Int), .slice a8 N c8], .int .i64 0]) (by simp [results, Try.results85, go_sem, g0, g1, g2]) rfl
        ⟨a8, c8, rfl, ((by unfold tab; rw [HN.out]; exact HNEW.out : New W0.heap.size wr (.slice a8 N c8) (tab q C g)).put3 hw0 _ _ _).lower (Nat.le_of_lt hw0), (below_both bx hB).put3 (Nat.le_refl _) _ _ _⟩
theorem wplace {i j C : Nat} (hi : i ≤ 64) (hC : C ≤ 64) (hj : j ≤ 64) : IntKind.i64.wrap ((i : Int) * (C : Int)) = ((i * C : Nat) : Int) ∧ IntKind.i64.wrap (((i * C : Nat) : Int) + (j : Int)) = ((i * C + j : Nat) : Int) := by
  have h := Nat.mul_le_mul hi hC
  have e : ((i * C : Nat) : Int) = (i : Int) * (C : Int) := Int.natCast_mul _ _
  rw [← e]
  generalize i * C = P at *
  exact ⟨IntWalk.i64_in _ (by omega), by rw [IntWalk.i64_in _ (by omega)]; omega⟩
theorem bel_new (W : World) (o : Obj) : Below W.heap.size W (W.alloc o) := (Below.refl _ _).alloc (Nat.le_refl _) o
set_option maxHeartbeats 2000000 in
theorem shape_tr1 {a : Option Addr} {m cap S R C i j : Nat} {xs : List Nat} {w : World} (hA : Arg w (.slice a m cap) xs) (hM : Ms w S #[.int .i64 (R : Int), .int .i64 (C : Int), .slice a m cap] 24) (hl : xs.length = R * C) (hR : R ≤ 64) (hC : C ≤ 64) (hi : i < C) (hj : j < R) :
    Calls Try.prog 86 #[.int .i64 (i : Int), .int .i64 (j : Int), .pointer (some ⟨S, 0, none⟩)] w fun e W' => e = .returned (.int .u64 (lim xs (j * C + i) : Int)) ∧ Below w.heap.size w W' := by
  have hp := place_lt (R := C) (C := R) hi hj
  have hrc := Nat.mul_le_mul hR hC
  have c1 := hM.cell (i := 1) rfl
  have c2 := hM.cell (i := 2) rfl
  obtain ⟨T, a', c', hT, e, hcap, HA⟩ := hA.opened
  simp only [Value.slice.injEq] at e
  obtain ⟨rfl, rfl, rfl⟩ := e
  obtain ⟨o, rfl, k⟩ := HA.out w (Below.refl _ _) (j * C + i) (by rw [hl, Nat.mul_comm R C]; exact hp)
  obtain ⟨h1, h2⟩ := wplace (i := j) (C := C) (j := i) (by omega) hC (by omega)
  have hb : j * C + i < xs.length := by rw [hl, Nat.mul_comm R C]; exact hp
  generalize hP : j * C + i = P at *
  clear hP hp
  generalize j * C = Q at *
  generalize xs.length = m at *
  have hz : P < m := hb
  go_enter Try.func86, Try.ntmps86
  go_wp2
  go_ret
  exact ⟨rfl, Below.refl _ _⟩
end Go.Proofs.Ytdcebkhdnhdejaa
