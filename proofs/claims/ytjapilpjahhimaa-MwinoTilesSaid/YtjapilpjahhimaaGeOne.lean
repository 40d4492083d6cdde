/- vernierlaw21: alive; GemmOne, walked. -/
import Derived.Test.YtjapilpjahhimaaGeSpec
import Derived.Test.YtjapilpjahhimaaMaTl
import Derived.BigQuiet
namespace Go.Proofs.Ytjapilpjahhimaa
open Go.RowKit Go.Shelf
theorem rmul_twos : rmul 4611686018427387904 4611686018427387904 0 = (4616189618054758400, 0) := by
  have e1 : neg6 4611686018427387904 = false := by decide
  have e2 : sig 4611686018427387904 = 4503599627370496 := by decide
  have e3 : xpo 4611686018427387904 = -51 := by decide
  have f1 : neg6 4616189618054758400 = false := by decide
  have f2 : sig 4616189618054758400 = 4503599627370496 := by decide
  have f3 : xpo 4616189618054758400 = -50 := by decide
  have c1 : cls 4611686018427387904 = 1 := by decide
  have hr : rnd false (4503599627370496 * 4503599627370496) 1 (-51 + -51) 0 = (4616189618054758400, 0) := by
    have h := rnd_is (a := 4616189618054758400) (N := 4503599627370496 * 4503599627370496) (k := 52) (exp := -51 + -51) (mode := 0) (by decide) (by decide) (by decide) (.inl ⟨by rw [f2], by rw [f3]; rfl⟩)
    rw [f1] at h
    exact h
  unfold rmul
  rw [c1, e1, e2, e3, if_neg (by omega), if_neg (by omega), if_neg (by omega), if_neg (by omega)]
  exact hr
theorem l21_muls : tellV (mulP 1 1 1 [4611686018427387904] [4611686018427387904]) (mulF 1 1 1 [4611686018427387904] 1 1 1 [4611686018427387904]) = 0 ∧ mulP 1 1 1 [4611686018427387904] [4611686018427387904] = [4616189618054758400] := by
  have h1 : timesU 4611686018427387904 4611686018427387904 = 4616189618054758400 := by unfold timesU; rw [rmul_twos]
  have h2 : plusU 0 4616189618054758400 = 4616189618054758400 := (plus_sgn (a := 4616189618054758400) (by decide) (by decide) false).2
  have e : mulP 1 1 1 [4611686018427387904] [4611686018427387904] = [4616189618054758400] := by
    show [plusU 0 (timesU 4611686018427387904 4611686018427387904)] = _
    rw [h1, h2]
  rw [e]
  exact ⟨by decide, rfl⟩
theorem id_tab (n : Nat) : (tab n n fun i j => if i = j then 4607182418800017408 else 0) = idM n := rfl
theorem id_low (n : Nat) : Low 18446744073709551616 (idM n) := rowV_low fun k _ => by split <;> decide
theorem id_fin (n : Nat) : finB (idM n) (idM n).length = true := finB_iff.2 fun j hj => by
  unfold idM at hj ⊢
  rw [rowV_length] at hj
  rw [rowV_lim _ hj]
  split <;> decide
theorem alk_fin {a b : Nat} (h : Alk a b) (hb : cls b ≤ 1) : cls a ≤ 1 := by
  rcases h with rfl | ⟨⟨s, rfl⟩, _⟩
  · exact hb
  · rw [(sgn_kind s).1]; omega
theorem alk_ways {a b : Nat} (h : Alk a b) : a = b ∨ (a = 0 ∧ b = 9223372036854775808) ∨ (a = 9223372036854775808 ∧ b = 0) := by
  rcases h with h | ⟨⟨s, rfl⟩, t, rfl⟩
  · exact .inl h
  · cases s <;> cases t
    · exact .inl rfl
    · exact .inr (.inl ⟨rfl, rfl⟩)
    · exact .inr (.inr ⟨rfl, rfl⟩)
    · exact .inl rfl
end Go.Proofs.Ytjapilpjahhimaa
