/- vernierref01.Same, whatever comes in; vernierlaw14.same. -/
import Derived.Test.YtaefalmabphadaaShLaw
import Derived.BigQuiet
import Derived.Deep.QuietTactic
namespace Go.Proofs.Ytaefalmabphadaa
open Go.RowKit Go.Shelf
set_option maxHeartbeats 2000000 in
theorem same_any {va vb : Value} {xs ys : List Nat} {w : World} (hA : Arg w va xs) (hB : Arg w vb ys) (hxl : xs.length ≤ 17592186044416) (hyl : ys.length ≤ 17592186044416) :
    Calls Try.prog 29 #[va, vb] w fun e w' => e = .returned (.bool (decide (xs = ys))) ∧ Below w.heap.size w w' := by
  obtain ⟨ba, _, hA⟩ := hA
  obtain ⟨bb, _, hB⟩ := hB
  by_cases he : xs = ys
  · subst he
    rw [decide_eq_true rfl]
    exact same_true ba bb va vb xs (by omega) w hA hB
  · rw [decide_eq_false he]
    have hex : xs.length = ys.length → ∃ d, d < xs.length ∧ lim xs d ≠ lim ys d := by
      intro hl
      refine Classical.byContradiction fun hno => he (ext_lim hl fun k hk => ?_)
      exact Classical.byContradiction fun hne => hno ⟨k, hk, hne⟩
    obtain ⟨a, cap, rfl, hcap, hsa⟩ := hA.slice
    obtain ⟨b, cbp, rfl, hcbp, hsb⟩ := hB.slice
    have hca : ∀ k, k < xs.length → ∀ off, a = some ⟨ba, off, none⟩ → w.cell? ⟨ba, off + k, none⟩ = some (.int .u64 (lim xs k : Int)) := by
      intro k hk off ha
      subst ha; exact hA.cell hk
    have hcb : ∀ k, k < ys.length → ∀ off, b = some ⟨bb, off, none⟩ → w.cell? ⟨bb, off + k, none⟩ = some (.int .u64 (lim ys k : Int)) := by
      intro k hk off ha
      subst ha; exact hB.cell hk
    have HA := Lib.hid hca
    have HB := Lib.hid hcb
    have HSA := Lib.hid hsa
    have HSB := Lib.hid hsb
    have HEX := Lib.hid hex
    clear hca hcb hA hB hsa hsb hex he
    generalize xs.length = m at *
    generalize ys.length = m' at *
    go_enter Try.func29, Try.ntmps29
    by_cases hmm : m = m'
    · subst hmm
      obtain ⟨d, hd, hne⟩ := HEX.out rfl
      have HNE := Lib.hid hne
      clear hne HEX
      go_wp2
      go_loopw [5] (fun i wr => ∃ k : Nat, k ≤ d ∧ i = .int .i64 k ∧ ∃ q, wr = w.drewN q) (fun i _ => m - (intOf i).toNat)
      case atStart => exact ⟨0, Nat.zero_le _, rfl, 0, rfl⟩
      case round =>
        obtain ⟨k, hk, rfl, q, rfl⟩ := hrel
        have hlt : k < m := by omega
        obtain ⟨oa, rfl⟩ := HSA.out (by omega)
        obtain ⟨ob, rfl⟩ := HSB.out (by omega)
        have ka := HA.out k hlt oa rfl
        have kb := HB.out k hlt ob rfl
        by_cases hv : lim xs k = lim ys k
        · have hkd : k ≠ d := fun h => HNE.out (h ▸ hv)
          rw [← hv] at kb
          generalize lim xs k = v at *
          clear hv
          go_wp2
          go_quiet (fail)
          go_wp2
          go_roundw
          case rel => exact ⟨k + 1, by omega, by simp, q + nq, rfl⟩
          case measure => simp [intOf]; omega
        · have hb : ((lim xs k : Int) != (lim ys k : Int)) = true := bne_iff_ne.2 (by omega)
          generalize lim xs k = v at *
          generalize lim ys k = u at *
          clear hv
          go_wp2
          go_quiet (fail)
          go_wp2
          go_ret
          exact ⟨rfl, below_both (below_drewN _ w q) (below_drewN _ _ nq)⟩
    · have hb : ((m : Int) != (m' : Int)) = true := bne_iff_ne.2 (by omega)
      clear hmm
      go_wp2
      go_ret
      exact ⟨rfl, Below.refl _ _⟩
theorem same14g {a b : Option Addr} {m cap m' bap : Nat} {R C R' C' : Int} {xs ys : List Nat} {w : World} (hA : Arg w (.slice a m cap) xs) (hB : Arg w (.slice b m' bap) ys) (hl : xs.length ≤ 17592186044416) (hl' : ys.length ≤ 17592186044416) :
    Calls Try.prog 21 #[.agg #[.int .i64 R, .int .i64 C, .slice a m cap], .agg #[.int .i64 R', .int .i64 C', .slice b m' bap]] w fun e W' => e = .returned (.bool (sameM R C R' C' xs ys)) ∧ Below w.heap.size w W' := by
  obtain ⟨b1, G1⟩ := mbox w #[.int .i64 R, .int .i64 C, .slice a m cap] 24 _ rfl
  obtain ⟨b2, G2⟩ := mbox (w.alloc (.cells #[.int .i64 R, .int .i64 C, .slice a m cap] 24)) #[.int .i64 R', .int .i64 C', .slice b m' bap] 24 _ rfl
  replace G1 := G1.behind b2
  replace hA := (hA.behind b1).behind b2
  replace hB := (hB.behind b1).behind b2
  have bb := below_both b1 b2
  have c00 := G1.cell (i := 0) rfl
  have c01 := G1.cell (i := 1) rfl
  have c02 := G1.cell (i := 2) rfl
  have d00 := G2.cell (i := 0) rfl
  have d01 := G2.cell (i := 1) rfl
  have d02 := G2.cell (i := 2) rfl
  simp only [World.size_alloc] at d00 d01 d02
  unfold sameM
  by_cases hR : R = R'
  · subst hR
    by_cases hC : C = C'
    · subst hC
      rw [decide_eq_true rfl, decide_eq_true rfl, Bool.true_and, Bool.true_and]
      go_enter Try.func21, Try.ntmps21
      go_wp2_with fail
      refine (same_any hA hB hl hl').mono ?_
      rintro e w1 ⟨rfl, b3⟩
      go_wp2
      go_ret
      exact ⟨rfl, below_both bb b3⟩
    · rw [decide_eq_false hC, Bool.false_and, Bool.and_false]
      have hb : (C == C') = false := beq_eq_false_iff_ne.2 hC
      clear hC
      go_enter Try.func21, Try.ntmps21
      go_wp2
      go_ret
      exact ⟨rfl, bb⟩
  · rw [decide_eq_false hR, Bool.false_and]
    have hb : (R == R') = false := beq_eq_false_iff_ne.2 hR
    clear hR
    go_enter Try.func21, Try.ntmps21
    go_wp2
    go_ret
    exact ⟨rfl, bb⟩
end Go.Proofs.Ytaefalmabphadaa
