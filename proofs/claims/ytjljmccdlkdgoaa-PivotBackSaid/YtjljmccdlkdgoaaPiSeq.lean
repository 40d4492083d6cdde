/- pivot: functions that hand over pairs, one by one. -/
import Derived.Test.YtjljmccdlkdgoaaPiSpec
import Derived.Test.YtjljmccdlkdgoaaState
namespace Go.Proofs.Ytjljmccdlkdgoaa
open Go.RowKit Go.Shelf
attribute [local go_sem] Oper.semAt_some
/-- gf, with lb captured, hands over len pairs, one by one, as long as yield says so, whatever is done behind w0's blocks meanwhile -/
def Seq2 (gf : Nat) (lb : Array Value) (len : Nat) (f g : Nat → Int) (w0 : World) : Prop :=
  Enters gf ∧ ∀ (n l : Nat) (Inv : Nat → World → Prop) (X : World → Prop) (Z Xz : Code → World → Prop), 3 ≤ n →
    (∀ k W, Inv k W → Below w0.heap.size w0 W) →
    (∀ k U, k < len → Inv k U → X U → YieldAt Fence.wide (n - 1) Try.prog l #[.int .i64 (f k), .int .i64 (g k)] U fun e V => (e = .returned (.bool true) ∧ Inv (k + 1) V ∧ X V) ∨ (e = .returned (.bool false) ∧ ∃ c, Z c V ∧ Xz c V)) →
    ∀ W, Inv 0 W → X W → CallsIn Fence.wide n Try.prog gf (#[.func (.yield l) #[] #[]] ++ lb) W fun e V => (∃ v, e = .returned v) ∧ ((Inv len V ∧ X V) ∨ ∃ c, Z c V ∧ Xz c V)
theorem Seq2.behind {gf : Nat} {lb : Array Value} {len : Nat} {f g : Nat → Int} {w0 w1 : World} (h : Seq2 gf lb len f g w0) (hb : Below w0.heap.size w0 w1) : Seq2 gf lb len f g w1 :=
  ⟨h.1, fun n l Inv X Z Xz hn hI hY W h0 hX => h.2 n l Inv X Z Xz hn (fun k W hk => below_both hb (hI k W hk)) hY W h0 hX⟩
set_option maxRecDepth 100000 in
set_option maxHeartbeats 2000000 in
theorem seq_one {b1 b2 : Nat} {i k : Int} {w : World} (h1 : Ms w b1 #[.int .i64 i] 3) (h2 : Ms w b2 #[.int .i64 k] 3) : Seq2 21 #[.pointer (some ⟨b1, 0, none⟩), .pointer (some ⟨b2, 0, none⟩)] 1 (fun _ => i) (fun _ => k) w := by
  refine ⟨enters_of Try.func21 (by kernel_rfl) rfl, fun n l Inv X Z Xz hn hI hY W h0 hX => ?_⟩
  have hB := hI 0 W h0
  have c1 := (h1.behind hB).cell (i := 0) rfl
  have c2 := (h2.behind hB).cell (i := 0) rfl
  obtain ⟨fn, tmps, assign, body, hy, hR⟩ := hY 0 W (by omega) h0 hX
  try dsimp only at hy
  show CallsIn Fence.wide n Try.prog 21 #[.func (.yield l) #[] #[], .pointer (some ⟨b1, 0, none⟩), .pointer (some ⟨b2, 0, none⟩)] W _
  refine callsIn_of_wp Try.func21 rfl trivial ?_ rfl
  simp only [Try.ntmps21, List.size_toArray, List.length_cons, List.length_nil, Nat.reduceAdd, Nat.reduceSub, Array.replicate_succ, Array.replicate_zero, List.push_toArray, List.append_toArray, List.nil_append, List.cons_append]
  gi_wp2
  refine ⟨fun _ => by omega, hR.mono ?_⟩
  rintro e W3 (⟨rfl, hI3, hX3⟩ | ⟨rfl, hZ3⟩)
  · gi_wp2
    go_end0
    exact ⟨⟨_, rfl⟩, .inl ⟨hI3, hX3⟩⟩
  · gi_wp2
    go_end0
    exact ⟨⟨_, rfl⟩, .inr hZ3⟩
set_option maxRecDepth 100000 in
set_option maxHeartbeats 2000000 in
theorem seq_all {b1 : Nat} {v : Value} {zs : List Int} {w : World} (h1 : Ms w b1 #[v] 36) (hv : ArgK .i64 w v zs) (hz : zs.length ≤ 1000000000000000000) : Seq2 41 #[.pointer (some ⟨b1, 0, none⟩)] zs.length (fun k => k) (fun k => zat zs k) w := by
  refine ⟨enters_of Try.func41 (by kernel_rfl) rfl, fun n l Inv X Z Xz hn hI hY W h0 hX => ?_⟩
  obtain ⟨b, hb, hr⟩ := hv
  obtain ⟨a, cap, rfl, hcap, hoff⟩ := hr.slice
  have hcb0 := (h1.behind (hI 0 W h0)).cell (i := 0) rfl
  have HC : Hid (∀ k W, k < zs.length → Inv k W → ∃ off, a = some ⟨b, off, none⟩ ∧ W.cell? ⟨b, off + k, none⟩ = some (.int .i64 (zat zs k))) := Lib.hid (fun k W hk hIk => by
    obtain ⟨off, rfl⟩ := hoff (by omega)
    exact ⟨off, rfl, (hr.kept ((hI k W hIk).block b hb)).cell hk⟩)
  have hcapp : zs.length ≤ cap ∨ zs.length = 0 := hcap
  generalize hm : zs.length = m at *
  have HM := Lib.hid hm
  clear hm
  show CallsIn Fence.wide n Try.prog 41 #[.func (.yield l) #[] #[], .pointer (some ⟨b1, 0, none⟩)] W _
  refine callsIn_of_wp Try.func41 rfl trivial ?_ rfl
  simp only [Try.ntmps41, List.size_toArray, List.length_cons, List.length_nil, Nat.reduceAdd, Nat.reduceSub, Array.replicate_succ, Array.replicate_zero, List.push_toArray, List.append_toArray, List.nil_append, List.cons_append]
  clear hr hoff
  gi_wp2
  gi_loopw [7] (fun i wr => ∃ k : Nat, k ≤ m ∧ (i = .int .i64 k) ∧ Inv k wr ∧ X wr) (fun i _ => m - (intOf i).toNat)
  case atStart => exact ⟨0, Nat.zero_le _, rfl, h0, hX⟩
  case round =>
    obtain ⟨k, hk, rfl, hIk, hXk⟩ := hrel
    clear hcb0
    by_cases hlt : k < m
    · obtain ⟨off, rfl, hcx⟩ := HC.out k wr hlt hIk
      obtain ⟨fn, tmps, assign, body, hy, hR⟩ := hY k wr hlt hIk hXk
      try dsimp only at hy
      gi_wp2
      refine ⟨fun _ => by omega, hR.mono ?_⟩
      rintro e W3 (⟨rfl, hI3, hX3⟩ | ⟨rfl, hZ3⟩)
      · gi_wp2
        go_roundw
        case rel => exact ⟨k + 1, by omega, by simp, hI3, hX3⟩
        case measure => simp [intOf]; omega
      · gi_wp2
        refine bodyPost_ret (results_none rfl _ _ _) rfl ?_
        exact ⟨⟨_, rfl⟩, .inr hZ3⟩
    · obtain rfl : k = m := by omega
      gi_wp2
      go_end0
      exact ⟨⟨_, rfl⟩, .inl ⟨hIk, hXk⟩⟩
set_option maxRecDepth 100000 in
set_option maxHeartbeats 2000000 in
theorem seq_back {b1 : Nat} {v : Value} {zs : List Int} {w : World} (h1 : Ms w b1 #[v] 36) (hv : ArgK .i64 w v zs) (hz : zs.length ≤ 1000000000000000000) : Seq2 42 #[.pointer (some ⟨b1, 0, none⟩)] zs.length (fun k => ((zs.length - 1 - k : Nat) : Int)) (fun k => zat zs (zs.length - 1 - k)) w := by
  refine ⟨enters_of Try.func42 (by kernel_rfl) rfl, fun n l Inv X Z Xz hn hI hY W h0 hX => ?_⟩
  obtain ⟨b, hb, hr⟩ := hv
  obtain ⟨a, cap, rfl, hcap, hoff⟩ := hr.slice
  have HB : Hid (∀ k W, Inv k W → W.cell? ⟨b1, 0, none⟩ = some (.slice a zs.length cap)) := Lib.hid (fun k W hIk => (h1.behind (hI k W hIk)).cell (i := 0) rfl)
  have HC : Hid (∀ k W, k < zs.length → Inv k W → ∃ off, a = some ⟨b, off, none⟩ ∧ W.cell? ⟨b, off + (zs.length - 1 - k), none⟩ = some (.int .i64 (zat zs (zs.length - 1 - k)))) := Lib.hid (fun k W hk hIk => by
    obtain ⟨off, rfl⟩ := hoff (by omega)
    exact ⟨off, rfl, (hr.kept ((hI k W hIk).block b hb)).cell (by omega)⟩)
  have hcapp : zs.length ≤ cap ∨ zs.length = 0 := hcap
  generalize hm : zs.length = m at *
  have HM := Lib.hid hm
  clear hm
  have hcb0 := HB.out 0 W h0
  have e0 : IntKind.i64.wrap ((m : Int) - 1) = (m : Int) - 1 := IntWalk.i64_in _ (by omega)
  show CallsIn Fence.wide n Try.prog 42 #[.func (.yield l) #[] #[], .pointer (some ⟨b1, 0, none⟩)] W _
  refine callsIn_of_wp Try.func42 rfl trivial ?_ rfl
  simp only [Try.ntmps42, List.size_toArray, List.length_cons, List.length_nil, Nat.reduceAdd, Nat.reduceSub, Array.replicate_succ, Array.replicate_zero, List.push_toArray, List.append_toArray, List.nil_append, List.cons_append]
  clear hr hoff
  gi_wp2
  gi_loopw [3] (fun i wr => ∃ (k : Nat) (z : Int), k ≤ m ∧ z = (m : Int) - 1 - k ∧ (i = .int .i64 z) ∧ Inv k wr ∧ X wr) (fun i _ => (intOf i + 1).toNat)
  case atStart => exact ⟨0, (m : Int) - 1, Nat.zero_le _, by omega, rfl, h0, hX⟩
  case round =>
    obtain ⟨k, z, hk, hz2, rfl, hIk, hXk⟩ := hrel
    clear hcb0
    by_cases hlt : k < m
    · obtain ⟨off, rfl, hcx⟩ := HC.out k wr hlt hIk
      have hcb := HB.out k wr hIk
      obtain ⟨fn, tmps, assign, body, hy, hR⟩ := hY k wr hlt hIk hXk
      obtain ⟨q, hq⟩ : ∃ q, q = m - 1 - k := ⟨_, rfl⟩
      rw [← hq] at hcx
      rw [show ((m - 1 - k : Nat) : Int) = (q : Int) by rw [hq]] at hy
      rw [← hq] at hy
      obtain rfl : z = (q : Int) := by omega
      have hqm : (q : Int) < (m : Int) := by omega
      have hq0 : decide ((0 : Int) ≤ (q : Int)) = true := decide_eq_true (by omega)
      have e1 : IntKind.i64.wrap ((q : Int) - 1) = (q : Int) - 1 := IntWalk.i64_in _ (by omega)
      have HQ := Lib.hid hq
      have HZ := Lib.hid hz2
      clear hq hz2
      try dsimp only at hy
      gi_wp2
      refine ⟨fun _ => by omega, hR.mono ?_⟩
      rintro e W3 (⟨rfl, hI3, hX3⟩ | ⟨rfl, hZ3⟩)
      · gi_wp2
        go_roundw
        case rel => exact ⟨k + 1, (q : Int) - 1, by omega, by have := HZ.out; omega, rfl, hI3, hX3⟩
        case measure => simp [intOf]
      · gi_wp2
        refine bodyPost_ret (results_none rfl _ _ _) rfl ?_
        exact ⟨⟨_, rfl⟩, .inr hZ3⟩
    · obtain rfl : k = m := by omega
      have hz0 : decide ((0 : Int) ≤ z) = false := decide_eq_false (by omega)
      clear hz2
      gi_wp2
      go_end0
      exact ⟨⟨_, rfl⟩, .inl ⟨hIk, hXk⟩⟩
end Go.Proofs.Ytjljmccdlkdgoaa
