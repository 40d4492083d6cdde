/- vernierlaw21: alive; GemmOne, walked. -/
import Derived.Test.YtdcebkhdnhdejaaGeSpec
import Derived.Test.YtdcebkhdnhdejaaMaTl
import Derived.BigQuiet
namespace Go.Proofs.Ytdcebkhdnhdejaa
open Go.RowKit Go.Shelf
theorem rmul_twos : rmul 4611686018427387904 4611686018427387904 0 = (4616189618054758400, 0) := by
  have e1 : neg6 4611686018427387904 = false := by decide
  have e2 : sig 4611686018427387904 = 4503599627370496 := by decide
  have e3 : xpo 4611686018427387904 = -51 := by decide
  have f1 : neg6 4616189618054758400 = false := by decide
  have f2 : sig 4616189618054758400 = 4503599627370496 := by decide
  have f3 : xpo 4616189618054758400 = -50 := by decide
  have c1 : cls 4611686018427387904 = 1 := by decide
  have hr : rnd false (4503599627370496 * 4503599627370496) 1 (-51 + -51) 0 = (4616189618054758400, 0) := by
    have h := rnd_is (a := 4616189618054758400) (N := 4503599627370496 * 4503599627370496) (k := 52) (exp := -51 + -51) (mode := 0) (by decide) (by decide) (by decide) (.inl ⟨by rw [f2], by rw [f3]; rfl⟩)
    rw [f1] at h
    exact h
  unfold rmul
  rw [c1, e1, e2, e3, if_neg (by omega), if_neg (by omega), if_neg (by omega), if_neg (by omega)]
  exact hr
theorem l21_muls : tellV (mulP 1 1 1 [4611686018427387904] [4611686018427387904]) (mulF 1 1 1 [4611686018427387904] 1 1 1 [4611686018427387904]) = 0 ∧ mulP 1 1 1 [4611686018427387904] [4611686018427387904] = [4616189618054758400] := by
  have h1 : timesU 4611686018427387904 4611686018427387904 = 4616189618054758400 := by unfold timesU; rw [rmul_twos]
  have h2 : plusU 0 4616189618054758400 = 4616189618054758400 := (plus_sgn (a := 4616189618054758400) (by decide) (by decide) false).2
  have e : mulP 1 1 1 [4611686018427387904] [4611686018427387904] = [4616189618054758400] := by
    show [plusU 0 (timesU 4611686018427387904 4611686018427387904)] = _
    rw [h1, h2]
  rw [e]
  exact ⟨by decide, rfl⟩
set_option maxRecDepth 100000 in
set_option maxHeartbeats 8000000 in
theorem l21_alive (w : World) : Calls Try.prog 35 #[] w fun e W' => e = .returned (.bool true) ∧ Below w.heap.size w W' := by
  have b1 := bel_new w (.cells #[.int .u64 4611686018427387904] 32)
  have af : Arg (w.alloc (.cells #[.int .u64 4611686018427387904] 32)) (.slice (some ⟨w.heap.size, 0, none⟩) 1 1) [4611686018427387904] := by
    refine ⟨w.heap.size, by rw [World.size_alloc]; omega, .inr ⟨0, 1, rfl, Nat.le_refl _, fun j hj => ?_⟩⟩
    have : j = 0 := by simp at hj; omega
    subst this
    rw [World.cell?_alloc_new]; rfl
  obtain ⟨b2, G⟩ := mbox (w.alloc (.cells #[.int .u64 4611686018427387904] 32)) #[.int .i64 1, .int .i64 1, .slice (some ⟨w.heap.size, 0, none⟩) 1 1] 24 _ rfl
  have ha := fun (W : World) (h : Arg W (.slice (some ⟨w.heap.size, 0, none⟩) 1 1) [4611686018427387904]) => gemm_mul (R := 1) (C := 1) (R' := 1) (C' := 1) h h (low_word (by decide)) (low_word (by decide))
  rw [l21_muls.1, l21_muls.2] at ha
  have HA := Lib.hid ha
  clear ha
  replace af := af.behind b2
  have B := below_both b1 b2
  have c0 := G.cell (i := 0) rfl
  have c1 := G.cell (i := 1) rfl
  have c2 := G.cell (i := 2) rfl
  simp only [World.size_alloc] at c0 c1 c2 G
  clear b1 b2
  go_enter Try.func35, Try.ntmps35
  go_wp2_with fail
  generalize (w.alloc (.cells #[.int .u64 4611686018427387904] 32)).alloc (.cells #[.int .i64 1, .int .i64 1, .slice (some ⟨w.heap.size, 0, none⟩) 1 1] 24) = W0 at *
  refine (HA.out _ af).mono ?_
  rintro e w5 ⟨R3, C3, b, n, c', rfl, hN, hR, b5⟩
  have haN : Arg w5 (.slice b n c') [4616189618054758400] := hN.arg
  obtain ⟨T, q, rfl, rfl, hT, HT⟩ := haN.one
  clear hN hR haN
  obtain ⟨b6, G6⟩ := mbox w5 #[.int .i64 R3, .int .i64 C3, .slice (some ⟨T, q, none⟩) 1 c'] 24 _ rfl
  have B6 := below_both b5 b6
  have f2 := G6.cell (i := 2) rfl
  have k2 := HT.out _ b6
  have HB := Lib.hid (below_both B B6)
  go_wp2
  go_ret
  exact ⟨rfl, HB.out⟩
theorem id_tab (n : Nat) : (tab n n fun i j => if i = j then 4607182418800017408 else 0) = idM n := rfl
theorem id_low (n : Nat) : Low 18446744073709551616 (idM n) := rowV_low fun k _ => by split <;> decide
theorem id_fin (n : Nat) : finB (idM n) (idM n).length = true := finB_iff.2 fun j hj => by
  unfold idM at hj ⊢
  rw [rowV_length] at hj
  rw [rowV_lim _ hj]
  split <;> decide
theorem alk_fin {a b : Nat} (h : Alk a b) (hb : cls b ≤ 1) : cls a ≤ 1 := by
  rcases h with rfl | ⟨⟨s, rfl⟩, _⟩
  · exact hb
  · rw [(sgn_kind s).1]; omega
theorem alk_ways {a b : Nat} (h : Alk a b) : a = b ∨ (a = 0 ∧ b = 9223372036854775808) ∨ (a = 9223372036854775808 ∧ b = 0) := by
  rcases h with h | ⟨⟨s, rfl⟩, t, rfl⟩
  · exact .inl h
  · cases s <;> cases t
    · exact .inl rfl
    · exact .inr (.inl ⟨rfl, rfl⟩)
    · exact .inr (.inr ⟨rfl, rfl⟩)
    · exact .inl rfl
end Go.Proofs.Ytdcebkhdnhdejaa
