/- natdiv's two iterators over a list of words, whose words may be written while they are gone through. -/
import Derived.Test.YtfbnpdlkbabmfaaDoorState
namespace Go.Proofs.YtfbnpdlkbabmfaaDoor
open Go.RowKit Go.Shelf

attribute [local go_sem] Oper.semAt_some

set_option maxRecDepth 100000 in
set_option maxHeartbeats 2000000 in
theorem nup_st (F : Fence) (n : Nat) (hf : F.fn 75) (hro : F.round = none) (hn : 1 ≤ n) (l Bs b off cap len : Nat) (a : Option Addr) (ha : 0 < len → a = some ⟨b, off, none⟩) (hreach : len ≤ 9223372036854775807) (vals : Nat → Int) (Inv : Nat → World → Prop) (X : World → Prop) (Z Xz : Code → World → Prop)
    (hcl : ∀ k W, k ≤ len → Inv k W → W.cell? ⟨Bs, 0, none⟩ = some (.slice a len cap))
    (hc : ∀ k W, k < len → Inv k W → W.cell? ⟨b, off + k, none⟩ = some (.int .u64 (vals k)))
    (hY : ∀ k U, k < len → Inv k U → X U → YieldAt F (n - 1) Tryd.prog l #[.int .i64 (k : Nat), .int .u64 (vals k)] U fun e V => (e = .returned (.bool true) ∧ Inv (k + 1) V ∧ X V) ∨ (e = .returned (.bool false) ∧ ∃ c, Z c V ∧ Xz c V))
    (W : World) (h0 : Inv 0 W) (hX : X W) :
    CallsIn F n Tryd.prog 75 #[.func (.yield l) #[] #[], .pointer (some ⟨Bs, 0, none⟩)] W fun e V => (∃ v, e = .returned v) ∧ ((Inv len V ∧ X V) ∨ ∃ c, Z c V ∧ Xz c V) := by
  have h00 := hcl 0 W (Nat.zero_le _) h0
  refine callsIn_of_wp Tryd.func75 rfl hf ?_ hro
  simp only [Tryd.ntmps75, List.size_toArray, List.length_cons, List.length_nil, Nat.reduceAdd, Nat.reduceSub, Array.replicate_succ, Array.replicate_zero, List.push_toArray, List.append_toArray, List.nil_append, List.cons_append]
  gi_wp2
  gi_loopw [3] (fun i wr => ∃ k : Nat, k ≤ len ∧ (i = .int .i64 k) ∧ Inv k wr ∧ X wr) (fun i _ => len - (intOf i).toNat)
  case atStart => exact ⟨0, Nat.zero_le _, rfl, h0, hX⟩
  case round =>
    obtain ⟨k, hk, rfl, hIk, hXk⟩ := hrel
    have hcb := hcl k wr hk hIk
    clear h00
    by_cases hlt : k < len
    · obtain rfl := ha (by omega)
      obtain ⟨fn, tmps, assign, body, hy, hR⟩ := hY k wr hlt hIk hXk
      try dsimp only at hy
      have hcx := hc k wr hlt hIk
      gi_wp2
      refine hR.mono ?_
      rintro e W3 (⟨rfl, hI3, hX3⟩ | ⟨rfl, hZ3⟩)
      · gi_wp2
        go_roundw
        case rel => exact ⟨k + 1, by omega, by simp, hI3, hX3⟩
        case measure => simp [intOf]; omega
      · gi_wp2
        refine bodyPost_ret (results_none rfl _ _ _) rfl ?_
        exact ⟨⟨_, rfl⟩, .inr hZ3⟩
    · obtain rfl : k = len := by omega
      skip
      gi_wp2
      go_end0
      exact ⟨⟨_, rfl⟩, .inl ⟨hIk, hXk⟩⟩

set_option maxRecDepth 100000 in
set_option maxHeartbeats 2000000 in
theorem ndown_st (F : Fence) (n : Nat) (hf : F.fn 79) (hro : F.round = none) (hn : 1 ≤ n) (l Bs b off cap len : Nat) (a : Option Addr) (ha : 0 < len → a = some ⟨b, off, none⟩) (hreach : len ≤ 9223372036854775807) (vals : Nat → Int) (Inv : Nat → World → Prop) (X : World → Prop) (Z Xz : Code → World → Prop)
    (hcl : ∀ k W, k ≤ len → Inv k W → W.cell? ⟨Bs, 0, none⟩ = some (.slice a len cap))
    (hc : ∀ k W, k < len → Inv k W → W.cell? ⟨b, off + (len - 1 - k), none⟩ = some (.int .u64 (vals k)))
    (hY : ∀ k U, k < len → Inv k U → X U → YieldAt F (n - 1) Tryd.prog l #[.int .i64 ((len - 1 - k) : Nat), .int .u64 (vals k)] U fun e V => (e = .returned (.bool true) ∧ Inv (k + 1) V ∧ X V) ∨ (e = .returned (.bool false) ∧ ∃ c, Z c V ∧ Xz c V))
    (W : World) (h0 : Inv 0 W) (hX : X W) :
    CallsIn F n Tryd.prog 79 #[.func (.yield l) #[] #[], .pointer (some ⟨Bs, 0, none⟩)] W fun e V => (∃ v, e = .returned v) ∧ ((Inv len V ∧ X V) ∨ ∃ c, Z c V ∧ Xz c V) := by
  have h00 := hcl 0 W (Nat.zero_le _) h0
  refine callsIn_of_wp Tryd.func79 rfl hf ?_ hro
  simp only [Tryd.ntmps79, List.size_toArray, List.length_cons, List.length_nil, Nat.reduceAdd, Nat.reduceSub, Array.replicate_succ, Array.replicate_zero, List.push_toArray, List.append_toArray, List.nil_append, List.cons_append]
  gi_wp2
  gi_loopw [3] (fun i wr => ∃ k : Nat, k ≤ len ∧ (∃ z : Int, i = .int .i64 z ∧ z + k + 1 = len) ∧ Inv k wr ∧ X wr) (fun i _ => (intOf i + 1).toNat)
  case atStart => exact ⟨0, Nat.zero_le _, ⟨_, rfl, by omega⟩, h0, hX⟩
  case round =>
    obtain ⟨k, hk, ⟨z, rfl, hz⟩, hIk, hXk⟩ := hrel
    have hcb := hcl k wr hk hIk
    clear h00
    by_cases hlt : k < len
    · obtain rfl := ha (by omega)
      obtain ⟨fn, tmps, assign, body, hy, hR⟩ := hY k wr hlt hIk hXk
      try dsimp only at hy
      have hcx := hc k wr hlt hIk
      obtain ⟨j, hj⟩ : ∃ j : Nat, j = len - 1 - k := ⟨_, rfl⟩
      rw [← hj] at hcx hy
      obtain rfl : z = (j : Int) := by omega
      have hjl : j < len := by omega
      have HZ : Hid ((j : Int) - 1 + ((k + 1 : Nat) : Int) + 1 = len) := Lib.hid (by omega)
      clear hj hz
      gi_wp2
      refine hR.mono ?_
      rintro e W3 (⟨rfl, hI3, hX3⟩ | ⟨rfl, hZ3⟩)
      · gi_wp2
        go_roundw
        case rel => exact ⟨k + 1, by omega, ⟨_, rfl, HZ.out⟩, hI3, hX3⟩
        case measure => simp [intOf]
      · gi_wp2
        refine bodyPost_ret (results_none rfl _ _ _) rfl ?_
        exact ⟨⟨_, rfl⟩, .inr hZ3⟩
    · obtain rfl : k = len := by omega
      obtain rfl : z = -1 := by omega
      gi_wp2
      go_end0
      exact ⟨⟨_, rfl⟩, .inl ⟨hIk, hXk⟩⟩

theorem nup_in (F : Fence) (n : Nat) (hf : F.fn 69) (hro : F.round = none) (a : Option Addr) (len cap : Nat) (w : World) :
    CallsIn F n Tryd.prog 69 #[.slice a len cap] w fun e w' => e = .returned (.func (.func 75) #[] #[.pointer (some ⟨w.heap.size, 0, none⟩)]) ∧ w' = w.alloc (.cells #[.slice a len cap] 22) := by
  refine callsIn_of_wp Tryd.func69 rfl hf ?_ hro
  simp only [Tryd.ntmps69, List.size_toArray, List.length_cons, List.length_nil, Nat.reduceAdd, Nat.reduceSub, Array.replicate_succ, Array.replicate_zero, List.push_toArray, List.append_toArray, List.nil_append, List.cons_append]
  gi_wp2
  go_ret
  exact ⟨rfl, rfl⟩
theorem ndown_in (F : Fence) (n : Nat) (hf : F.fn 74) (hro : F.round = none) (a : Option Addr) (len cap : Nat) (w : World) :
    CallsIn F n Tryd.prog 74 #[.slice a len cap] w fun e w' => e = .returned (.func (.func 79) #[] #[.pointer (some ⟨w.heap.size, 0, none⟩)]) ∧ w' = w.alloc (.cells #[.slice a len cap] 22) := by
  refine callsIn_of_wp Tryd.func74 rfl hf ?_ hro
  simp only [Tryd.ntmps74, List.size_toArray, List.length_cons, List.length_nil, Nat.reduceAdd, Nat.reduceSub, Array.replicate_succ, Array.replicate_zero, List.push_toArray, List.append_toArray, List.nil_append, List.cons_append]
  gi_wp2
  go_ret
  exact ⟨rfl, rfl⟩
end Go.Proofs.YtfbnpdlkbabmfaaDoor
