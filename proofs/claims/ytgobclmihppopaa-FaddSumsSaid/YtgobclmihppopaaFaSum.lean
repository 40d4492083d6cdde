/- fadd.Sum: what it keeps. -/
import Derived.Test.YtgobclmihppopaaFaSpec
namespace Go.Proofs.Ytgobclmihppopaa
open Go.RowKit Go.Shelf
set_option maxRecDepth 100000 in
set_option maxHeartbeats 8000000 in
theorem fadd_sum {v : Value} {xs : List Nat} {mode : Int} {w : World} (hA : Arg w v xs) (hl : Low 18446744073709551616 xs) (hn : xs.length ≤ 17592186044416) :
    Calls Try.prog 20 #[.int .i64 mode, v] w fun e W' => e = .returned (.tuple #[.int .u64 ((fsumN mode xs xs.length).1 : Int), .int .i64 (fsumN mode xs xs.length).2]) ∧ Below w.heap.size w W' := by
  have hlt := fun k => fsumN_lt mode hl k
  have hll := fun k => lim_lt hl (by decide : 0 < 18446744073709551616) k
  have hstep : ∀ k, fsumN mode xs (k + 1) = ((radd (fsumN mode xs k).1 (lim xs k) mode).1, bits .or .i64 (fsumN mode xs k).2 ((radd (fsumN mode xs k).1 (lim xs k) mode).2 : Int)) := fun _ => rfl
  obtain ⟨S, hS, hR⟩ := hA
  obtain ⟨a, cap, rfl, hcap, hsa⟩ := hR.slice
  have hca : ∀ k, k < xs.length → ∀ off, a = some ⟨S, off, none⟩ → w.cell? ⟨S, off + k, none⟩ = some (.int .u64 (lim xs k : Int)) := by
    intro k hk off ha
    subst ha; exact hR.cell hk
  have HA := Lib.hid hca
  have HSA := Lib.hid hsa
  have HLT := Lib.hid hlt
  have HLL := Lib.hid hll
  have HST := Lib.hid hstep
  have H0 : Hid (fsumN mode xs 0 = (0, 0)) := Lib.hid rfl
  clear hca hsa hlt hll hstep hR hcap hl
  generalize fsumN mode xs = fs at *
  generalize hm : xs.length = m at *
  clear hm
  have hz := pzero1 false w
  rw [show sgn false = 0 from rfl] at hz
  go_enter Try.func20, Try.ntmps20
  go_wp2_with fail
  refine hz.mono ?_
  rintro e w1 ⟨rfl, rfl⟩
  clear hz
  go_wp2
  go_loopw [6, 7, 15] (fun s f i wr => ∃ k n : Nat, ∃ g : Int, k ≤ m ∧ i = .int .i64 k ∧ Hid (fs k = (n, g)) ∧ s = .int .u64 (n : Int) ∧ f = .int .i64 g ∧ Below w.heap.size w wr) (fun _ _ i _ => m - (intOf i).toNat)
  case atStart => exact ⟨0, 0, 0, Nat.zero_le _, rfl, H0, rfl, rfl, Below.refl _ _⟩
  case round =>
    obtain ⟨k, n, g, hk, rfl, hf, rfl, rfl, hB⟩ := hrel
    by_cases hlt : k < m
    · obtain ⟨oa, rfl⟩ := HSA.out (by omega)
      have ka := (hB.cell (p := ⟨S, oa + k, none⟩) hS).trans (HA.out k hlt oa rfl)
      have h1 : (n : Int) ≤ 18446744073709551615 := by have := HLT.out k; rw [hf.out] at this; dsimp only at this; omega
      have h2 : (lim xs k : Int) ≤ 18446744073709551615 := by have := HLL.out k; omega
      have hst := HST.out k
      rw [hf.out] at hst
      dsimp only at hst
      have hadd := fun w => fadd_add (mode := mode) (w := w) h1 h2
      generalize radd n (lim xs k) mode = p at *
      obtain ⟨x, y⟩ := p
      generalize lim xs k = q at *
      have HST2 := Lib.hid hst
      dsimp only at hadd
      clear hst h1 h2
      go_wp2_with fail
      refine (hadd _).mono ?_
      rintro e w2 ⟨rfl, b2⟩
      replace hB := below_both hB b2
      clear hadd b2
      go_wp2
      go_roundw
      case rel => exact ⟨k + 1, x, bits .or .i64 g (y : Int), by omega, by simp, Lib.hid HST2.out, rfl, rfl, hB⟩
      case measure => simp [intOf]; omega
    · obtain rfl : k = m := by omega
      have hf2 := hf.out
      clear hlt
      go_wp2
      go_ret2
      exact ⟨by rw [hf2]; rfl, hB⟩
end Go.Proofs.Ytgobclmihppopaa
