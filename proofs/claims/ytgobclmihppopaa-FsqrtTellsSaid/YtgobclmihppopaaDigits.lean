/- natdiv's iterator over the digits of a quotient: it eats what is divided. -/
import Derived.Test.YtgobclmihppopaaDigit
import Derived.Test.YtgobclmihppopaaState
namespace Go.Proofs.Ytgobclmihppopaa
open Go.RowKit Go.Shelf

attribute [local go_sem] Oper.semAt_some

/-- what yield tells, as one bool -/
theorem yield_one {P R : World → Prop} (e : Ending) (V : World) (h : (e = .returned (.bool true) ∧ P V) ∨ (e = .returned (.bool false) ∧ R V)) : ∃ b : Bool, e = .returned (.bool b) ∧ ((b = true ∧ P V) ∨ (b = false ∧ R V)) := by
  rcases h with ⟨rfl, h⟩ | ⟨rfl, h⟩
  · exact ⟨true, rfl, .inl ⟨rfl, h⟩⟩
  · exact ⟨false, rfl, .inr ⟨rfl, h⟩⟩

set_option maxRecDepth 100000 in
set_option maxHeartbeats 4000000 in
theorem digits_st {σ : Type} (n : Nat) (hn : 2 ≤ n) (l Br Bd S L N capR capQ : Nat) (aQ : Option Addr) (dig : σ → Nat) (hL : L ≤ 17592186044416) (hN : N ≤ 17592186044416) (hcap : N + L ≤ capR) (Inv : Nat → World → Prop) (B : σ → World → Prop) (X : World → Prop) (Z Xz : Code → World → Prop)
    (hcr : ∀ k W, k ≤ N → Inv k W → W.cell? ⟨Br, 0, none⟩ = some (.slice (some ⟨S, 0, none⟩) (N + L) capR) ∧ W.cell? ⟨Bd, 0, none⟩ = some (.slice aQ L capQ))
    (hT : ∀ k W, k < N → Inv k W → X W → Calls Try.prog 104 #[.slice (some ⟨S, N - 1 - k, none⟩) (L + 1) (capR - (N - 1 - k)), .slice aQ L capQ] W fun e W' => ∃ s : σ, e = .returned (.int .u64 (dig s : Int)) ∧
      W'.cell? ⟨Br, 0, none⟩ = some (.slice (some ⟨S, 0, none⟩) (N + L) capR) ∧ W'.cell? ⟨Bd, 0, none⟩ = some (.slice aQ L capQ) ∧
      YieldAt Fence.wide (n - 1) Try.prog l #[.int .i64 ((N - 1 - k : Nat) : Int), .int .u64 (dig s : Int)] W' fun e V => (e = .returned (.bool true) ∧ Inv (k + 1) V ∧ X V) ∨ (e = .returned (.bool false) ∧ ∃ c, Z c V ∧ Xz c V))
    (hD : ∀ k W, k ≤ N → Inv k W → Inv k W.drew) (hXD : ∀ W, X W → X W.drew)
    (W : World) (h0 : Inv 0 W) (hX : X W) :
    CallsIn Fence.wide n Try.prog 103 #[.func (.yield l) #[] #[], .pointer (some ⟨Br, 0, none⟩), .pointer (some ⟨Bd, 0, none⟩)] W fun e V => (∃ v, e = .returned v) ∧ ((Inv N V ∧ X V) ∨ ∃ c, Z c V ∧ Xz c V) := by
  have hmx := follows
  have h1 : 1 ≤ n := by omega
  obtain ⟨h00, h01⟩ := hcr 0 W (Nat.zero_le _) h0
  refine callsIn_of_wp Try.func103 rfl trivial ?_ rfl
  simp only [Try.ntmps103, List.size_toArray, List.length_cons, List.length_nil, Nat.reduceAdd, Nat.reduceSub, Array.replicate_succ, Array.replicate_zero, List.push_toArray, List.append_toArray, List.nil_append, List.cons_append]
  have hst : (N : Int) + (L : Int) - (L : Int) - 1 = (N : Int) - 1 := by omega
  gi_wp2
  clear hst
  gi_loopw [4] (fun i wr => ∃ (k : Nat) (z : Int), k ≤ N ∧ i = .int .i64 z ∧ z + k + 1 = N ∧ Inv k wr ∧ X wr) (fun i _ => (intOf i + 1).toNat)
  case atStart => exact ⟨0, _, Nat.zero_le _, rfl, by omega, h0, hX⟩
  case round =>
    obtain ⟨k, z, hk, rfl, hz, hIk, hXk⟩ := hrel
    clear h00 h01
    by_cases hlt : k < N
    · obtain ⟨hc1, hc2⟩ := hcr k _ hk (hD k wr hk hIk)
      have ht := hT k _ hlt (hD k wr hk hIk) (hXD _ hXk)
      obtain ⟨j, hj⟩ : ∃ j : Nat, j = N - 1 - k := ⟨_, rfl⟩
      rw [← hj] at ht
      obtain rfl : z = (j : Int) := by omega
      have hjl : j < N := by omega
      have HZ : Hid ((j : Int) - 1 + ((k + 1 : Nat) : Int) + 1 = N) := Lib.hid (by omega)
      have i0 : (0 : Int) ≤ (j : Int) + (L : Int) + 1 := by omega
      have i1 : (j : Int) ≤ (j : Int) + (L : Int) + 1 := by omega
      have i2 : (j : Int) + (L : Int) + 1 ≤ (capR : Int) := by omega
      have t1 : ((j : Int) + (L : Int) + 1).toNat = j + L + 1 := by omega
      have t2 : j + L + 1 - j = L + 1 := by omega
      have HT := Lib.hid ht
      clear hj hz ht
      have z1 : IntKind.i64.wrap ((j : Int) + (L : Int)) = (j : Int) + (L : Int) := IntWalk.i64_in _ (by omega)
      have z2 : IntKind.i64.wrap ((j : Int) + (L : Int) + 1) = (j : Int) + (L : Int) + 1 := IntWalk.i64_in _ (by omega)
      gi_wp2
      gi_region_with_o (first
        | (refine ⟨trivial, ?_⟩; gi_at_call 104; (with_reducible refine (callsIn_wide.2 HT.out).mono ?_); rintro e w2 ⟨sg, rfl, hc3, hc4, fn, tmps, assign, body, hy, hR⟩)
        | ((with_reducible refine hR.mono ?_); intro e W3 hp0; obtain ⟨yb, rfl, hpost⟩ := yield_one (P := fun V => Inv (k + 1) V ∧ X V) (R := fun V => ∃ c, Z c V ∧ Xz c V) e W3 hp0; clear hp0))
      all_goals
        rcases hpost with ⟨rfl, hI3, hX3⟩ | ⟨rfl, hZ3⟩
        · gi_wp2
          go_roundw
          case rel => exact ⟨k + 1, _, by omega, rfl, HZ.out, hI3, hX3⟩
          case measure => simp [intOf]
        · gi_wp2
          refine bodyPost_ret (results_none rfl _ _ _) rfl ?_
          exact ⟨⟨_, rfl⟩, .inr hZ3⟩
    · obtain rfl : k = N := by omega
      obtain rfl : z = -1 := by omega
      gi_wp2
      go_end0
      exact ⟨⟨_, rfl⟩, .inl ⟨hIk, hXk⟩⟩
end Go.Proofs.Ytgobclmihppopaa
