/- shape: matrices that are made: build, Identity, Transpose; At; Same. -/
import Derived.Test.YtjljmccdlkdgoaaShSpec
namespace Go.Proofs.Ytjljmccdlkdgoaa
open Go.RowKit Go.Shelf
theorem wplace {i j C : Nat} (hi : i ≤ 64) (hC : C ≤ 64) (hj : j ≤ 64) : IntKind.i64.wrap ((i : Int) * (C : Int)) = ((i * C : Nat) : Int) ∧ IntKind.i64.wrap (((i * C : Nat) : Int) + (j : Int)) = ((i * C + j : Nat) : Int) := by
  have h := Nat.mul_le_mul hi hC
  have e : ((i * C : Nat) : Int) = (i : Int) * (C : Int) := Int.natCast_mul _ _
  rw [← e]
  generalize i * C = P at *
  exact ⟨IntWalk.i64_in _ (by omega), by rw [IntWalk.i64_in _ (by omega)]; omega⟩
theorem bel_new (W : World) (o : Obj) : Below W.heap.size W (W.alloc o) := (Below.refl _ _).alloc (Nat.le_refl _) o
end Go.Proofs.Ytjljmccdlkdgoaa

/- shape: Transpose, At, Same. -/
namespace Go.Proofs.Ytjljmccdlkdgoaa
open Go.RowKit Go.Shelf
end Go.Proofs.Ytjljmccdlkdgoaa

/- slices.Equal over words; shape.Same. -/
namespace Go.Proofs.Ytjljmccdlkdgoaa
open Go.RowKit Go.Shelf
set_option maxHeartbeats 4000000 in
theorem equal_u64 {va vb : Value} {xs ys : List Nat} {w : World} (hA : Arg w va xs) (hB : Arg w vb ys) (hxl : xs.length ≤ 17592186044416) (hyl : ys.length ≤ 17592186044416) :
    Calls Try.prog 29 #[va, vb] w fun e w' => e = .returned (.bool (decide (xs = ys))) ∧ Below w.heap.size w w' := by
  have hex : xs.length = ys.length → xs ≠ ys → ∃ d, d < xs.length ∧ lim xs d ≠ lim ys d := by
    intro hl he
    refine Classical.byContradiction fun hno => he (ext_lim hl fun k hk => ?_)
    exact Classical.byContradiction fun hne => hno ⟨k, hk, hne⟩
  have hsm : xs = ys → ∀ k, lim xs k = lim ys k := by rintro rfl k; rfl
  have hln : xs = ys → xs.length = ys.length := by rintro rfl; rfl
  obtain ⟨S, a, cap, hS, rfl, hcap, HA⟩ := hA.opened
  obtain ⟨T, b, bap, hT, rfl, hbap, HB⟩ := hB.opened
  have HEX := Lib.hid hex
  have HSM := Lib.hid hsm
  clear hex hsm hA hB hcap hbap
  by_cases he : xs = ys
  · rw [decide_eq_true he]
    have hl := hln he
    have HQ := Lib.hid (HSM.out he)
    clear he HSM HEX hln
    rw [← hl] at HB ⊢
    clear hl
    generalize xs.length = m at *
    go_enter Try.func29, Try.ntmps29
    go_wp2
    go_loopw [13] (fun i wr => ∃ k : Nat, k ≤ m ∧ i = .int .i64 k ∧ Below w.heap.size w wr) (fun i _ => m - (intOf i).toNat)
    case atStart => exact ⟨0, Nat.zero_le _, rfl, Below.refl _ _⟩
    case round =>
      obtain ⟨k, hk, rfl, hB⟩ := hrel
      by_cases hlt : k < m
      · obtain ⟨oa, rfl, ka⟩ := HA.out wr hB k hlt
        obtain ⟨ob, rfl, kb⟩ := HB.out wr hB k hlt
        rw [← HQ.out k] at kb
        generalize lim xs k = v at *
        go_wp2
        go_quiet (fail)
        go_wp2
        go_roundw
        case rel => exact ⟨k + 1, by omega, by simp, below_both hB (below_drewN _ _ _)⟩
        case measure => simp [intOf]; omega
      · go_wp2
        go_ret
        exact ⟨rfl, hB⟩
  · rw [decide_eq_false he]
    by_cases hl : xs.length = ys.length
    · obtain ⟨d, hd, hne⟩ := HEX.out hl he
      have HNE := Lib.hid hne
      clear hne HEX HSM he hln
      rw [← hl] at HB ⊢
      clear hl
      generalize xs.length = m at *
      go_enter Try.func29, Try.ntmps29
      go_wp2
      go_loopw [13] (fun i wr => ∃ k : Nat, k ≤ d ∧ i = .int .i64 k ∧ Below w.heap.size w wr) (fun i _ => m - (intOf i).toNat)
      case atStart => exact ⟨0, Nat.zero_le _, rfl, Below.refl _ _⟩
      case round =>
        obtain ⟨k, hk, rfl, hB⟩ := hrel
        have hlt : k < m := by omega
        obtain ⟨oa, rfl, ka⟩ := HA.out wr hB k hlt
        obtain ⟨ob, rfl, kb⟩ := HB.out wr hB k hlt
        by_cases hv : lim xs k = lim ys k
        · have hkd : k ≠ d := fun h => HNE.out (h ▸ hv)
          rw [← hv] at kb
          generalize lim xs k = v at *
          clear hv
          go_wp2
          go_quiet (fail)
          go_wp2
          go_roundw
          case rel => exact ⟨k + 1, by omega, by simp, below_both hB (below_drewN _ _ _)⟩
          case measure => simp [intOf]; omega
        · have hb : ((lim xs k : Int) != (lim ys k : Int)) = true := bne_iff_ne.2 (by omega)
          generalize lim xs k = v at *
          generalize lim ys k = u at *
          clear hv
          go_wp2
          go_quiet (fail)
          go_wp2
          go_ret
          exact ⟨rfl, below_both hB (below_drewN _ _ _)⟩
    · have hb : ((xs.length : Int) != (ys.length : Int)) = true := bne_iff_ne.2 (by omega)
      clear hl HEX HSM he hln HA HB
      generalize xs.length = m at *
      generalize ys.length = m' at *
      go_enter Try.func29, Try.ntmps29
      go_wp2
      go_ret
      exact ⟨rfl, Below.refl _ _⟩
set_option maxHeartbeats 2000000 in
theorem shape_same {a b : Option Addr} {m cap m' cap' : Nat} {R C R' C' : Int} {xs ys : List Nat} {w : World} (hA : Arg w (.slice a m cap) xs) (hB : Arg w (.slice b m' cap') ys) (hl : xs.length ≤ 17592186044416) (hl' : ys.length ≤ 17592186044416) :
    Calls Try.prog 14 #[.agg #[.int .i64 R, .int .i64 C, .slice a m cap], .agg #[.int .i64 R', .int .i64 C', .slice b m' cap']] w fun e W' => e = .returned (.bool (sameM R C R' C' xs ys)) ∧ Below w.heap.size w W' := by
  obtain ⟨b1, G1⟩ := mbox w #[.int .i64 R, .int .i64 C, .slice a m cap] 24 _ rfl
  obtain ⟨b2, G2⟩ := mbox (w.alloc (.cells #[.int .i64 R, .int .i64 C, .slice a m cap] 24)) #[.int .i64 R', .int .i64 C', .slice b m' cap'] 24 _ rfl
  replace G1 := G1.behind b2
  replace hA := (hA.behind b1).behind b2
  replace hB := (hB.behind b1).behind b2
  have bb := below_both b1 b2
  have c00 := G1.cell (i := 0) rfl
  have c01 := G1.cell (i := 1) rfl
  have c02 := G1.cell (i := 2) rfl
  have d00 := G2.cell (i := 0) rfl
  have d01 := G2.cell (i := 1) rfl
  have d02 := G2.cell (i := 2) rfl
  simp only [World.size_alloc] at d00 d01 d02
  unfold sameM
  by_cases hR : R = R'
  · subst hR
    by_cases hC : C = C'
    · subst hC
      rw [decide_eq_true rfl, decide_eq_true rfl, Bool.true_and, Bool.true_and]
      have hq := equal_u64 hA hB hl hl'
      generalize decide (xs = ys) = q at *
      go_enter Try.func14, Try.ntmps14
      go_wp2_with fail
      refine hq.mono ?_
      rintro e w1 ⟨rfl, b3⟩
      clear hq
      go_wp2
      go_ret
      exact ⟨rfl, below_both bb b3⟩
    · rw [decide_eq_false hC, Bool.false_and, Bool.and_false]
      have hb : (C == C') = false := beq_eq_false_iff_ne.2 hC
      clear hC
      go_enter Try.func14, Try.ntmps14
      go_wp2
      go_ret
      exact ⟨rfl, bb⟩
  · rw [decide_eq_false hR, Bool.false_and]
    have hb : (R == R') = false := beq_eq_false_iff_ne.2 hR
    clear hR
    go_enter Try.func14, Try.ntmps14
    go_wp2
    go_ret
    exact ⟨rfl, bb⟩
end Go.Proofs.Ytjljmccdlkdgoaa
