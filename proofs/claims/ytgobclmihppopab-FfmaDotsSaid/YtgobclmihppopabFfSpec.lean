/- ffma.Dot: what it keeps. -/
import Derived.Test.YtgobclmihppopabFfFma
import Derived.Deep.RegionHeld3
namespace Go.Proofs.Ytgobclmihppopab
open Go.RowKit Go.Shelf
set_option maxRecDepth 100000 in
set_option maxHeartbeats 8000000 in
theorem ffma_dot {v u : Value} {xs ys : List Nat} {mode : Int} {w : World} (hA : Arg w v xs) (hB : Arg w u ys) (hl : Low 18446744073709551616 xs) (hk : Low 18446744073709551616 ys) (hn : xs.length ≤ 17592186044416) (hm : ys.length ≤ 17592186044416) :
    Calls Try.prog 22 #[v, u, .int .i64 mode] w fun e W' => e = .returned (if xs.length = ys.length then .tuple #[.int .u64 ((fdotN mode xs ys xs.length).1 : Int), .int .i64 (fdotN mode xs ys xs.length).2, .int .i64 0] else .tuple #[.int .u64 0, .int .i64 0, .int .i64 11]) ∧ Below w.heap.size w W' := by
  have hlt := fun k => fdotN_lt mode xs ys k
  have hll := fun k => lim_lt hl (by decide : 0 < 18446744073709551616) k
  have hlv := fun k => lim_lt hk (by decide : 0 < 18446744073709551616) k
  have hstep : ∀ k, fdotN mode xs ys (k + 1) = ((rfma (lim xs k) (lim ys k) (fdotN mode xs ys k).1 mode).1, bits .or .i64 (fdotN mode xs ys k).2 ((rfma (lim xs k) (lim ys k) (fdotN mode xs ys k).1 mode).2 : Int)) := fun _ => rfl
  obtain ⟨S, hS, hR⟩ := hA
  obtain ⟨a, cap, rfl, hcap, hsa⟩ := hR.slice
  obtain ⟨T, hT, hQ⟩ := hB
  obtain ⟨b, cbp, rfl, hcbp, hsb⟩ := hQ.slice
  by_cases hlen : xs.length = ys.length
  · rw [if_pos hlen]
    have hca : ∀ k, k < xs.length → ∀ off, a = some ⟨S, off, none⟩ → w.cell? ⟨S, off + k, none⟩ = some (.int .u64 (lim xs k : Int)) := by
      intro k hk off ha
      subst ha; exact hR.cell hk
    have hcb : ∀ k, k < xs.length → ∀ off, b = some ⟨T, off, none⟩ → w.cell? ⟨T, off + k, none⟩ = some (.int .u64 (lim ys k : Int)) := by
      intro k hk off ha
      subst ha; exact hQ.cell (by omega)
    have HA := Lib.hid hca
    have HB := Lib.hid hcb
    have HSA := Lib.hid hsa
    have HSB := Lib.hid hsb
    have HLT := Lib.hid hlt
    have HLL := Lib.hid hll
    have HLV := Lib.hid hlv
    have HST := Lib.hid hstep
    have H0 : Hid (fdotN mode xs ys 0 = (0, 0)) := Lib.hid rfl
    clear hca hcb hsa hsb hlt hll hlv hstep hR hQ hcap hcbp hl hk hm
    rw [← hlen] at HSB ⊢
    generalize fdotN mode xs ys = fs at *
    generalize xs.length = m at *
    clear hlen
    have hz := pzero1 false w
    rw [show sgn false = 0 from rfl] at hz
    go_enter Try.func22, Try.ntmps22
    go_wp2_with fail
    refine hz.mono ?_
    rintro e w1 ⟨rfl, rfl⟩
    clear hz
    go_wp2
    go_loopw [9, 10, 22] (fun s f i wr => ∃ k n : Nat, ∃ g : Int, k ≤ m ∧ i = .int .i64 k ∧ Hid (fs k = (n, g)) ∧ s = .int .u64 (n : Int) ∧ f = .int .i64 g ∧ Below w.heap.size w wr) (fun _ _ i _ => m - (intOf i).toNat)
    case atStart => exact ⟨0, 0, 0, Nat.zero_le _, rfl, H0, rfl, rfl, Below.refl _ _⟩
    case round =>
      obtain ⟨k, n, g, hk, rfl, hf, rfl, rfl, hB⟩ := hrel
      by_cases hlt : k < m
      · obtain ⟨oa, rfl⟩ := HSA.out (by omega)
        obtain ⟨ob, rfl⟩ := HSB.out (by omega)
        have ka := (hB.cell (p := ⟨S, oa + k, none⟩) hS).trans (HA.out k hlt oa rfl)
        have kb := (hB.cell (p := ⟨T, ob + k, none⟩) hT).trans (HB.out k hlt ob rfl)
        have h1 : (n : Int) ≤ 18446744073709551615 := by have := HLT.out k; rw [hf.out] at this; dsimp only at this; omega
        have h2 : (lim xs k : Int) ≤ 18446744073709551615 := by have := HLL.out k; omega
        have h3 : (lim ys k : Int) ≤ 18446744073709551615 := by have := HLV.out k; omega
        have hst := HST.out k
        rw [hf.out] at hst
        dsimp only at hst
        have hadd := fun w => ffma_fma (mode := mode) (w := w) h2 h3 h1
        generalize rfma (lim xs k) (lim ys k) n mode = p at *
        obtain ⟨x, y⟩ := p
        generalize lim xs k = q at *
        generalize lim ys k = r at *
        have HST2 := Lib.hid hst
        dsimp only at hadd
        clear hst h1 h2 h3
        go_upto_region 7 with (fail)
        go_region_held3 (fun w' => w'.cell? ⟨S, oa + k, none⟩ = some (.int .u64 (q : Int)) ∧ w'.cell? ⟨T, ob + k, none⟩ = some (.int .u64 (r : Int))) (first | exact ⟨ka, kb⟩ | (refine ⟨?_, ?_⟩ <;> go_keep))
          (first
            | (go_at_call 18; (with_reducible refine (hadd _).mono ?_); rintro e w2 ⟨rfl, b2⟩; replace ka : w2.cell? ⟨S, oa + k, none⟩ = some (.int .u64 (q : Int)) := (b2.cell (p := ⟨S, oa + k, none⟩) (Nat.lt_of_lt_of_le hS hB.size)).trans ka; replace kb : w2.cell? ⟨T, ob + k, none⟩ = some (.int .u64 (r : Int)) := (b2.cell (p := ⟨T, ob + k, none⟩) (Nat.lt_of_lt_of_le hT hB.size)).trans kb; replace hB : Below w.heap.size w w2 := below_both hB.drew b2; clear b2))
        clear hadd ka kb
        go_wp2
        go_roundw
        case rel => exact ⟨k + 1, x, bits .or .i64 g (y : Int), by omega, by simp, Lib.hid HST2.out, rfl, rfl, hB⟩
        case measure => simp [intOf]; omega
      · obtain rfl : k = m := by omega
        have hf2 := hf.out
        clear hlt
        go_wp2
        go_ret3
        exact ⟨by rw [hf2]; rfl, hB⟩
  · rw [if_neg hlen]
    have hli : ¬ (xs.length : Int) = (ys.length : Int) := by omega
    generalize xs.length = m at *
    generalize ys.length = m' at *
    clear hlt hll hlv hstep hsa hsb hR hQ hcap hcbp hl hk hn hm hlen
    go_enter Try.func22, Try.ntmps22
    go_wp2
    go_ret3
    exact ⟨rfl, Below.refl _ _⟩
end Go.Proofs.Ytgobclmihppopab
