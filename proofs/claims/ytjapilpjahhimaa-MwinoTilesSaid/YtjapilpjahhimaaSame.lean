/- vernierref01.Same at one list; slices.Clone; nat.Norm. -/
import Derived.Test.YtjapilpjahhimaaNum
import Derived.Maps.AppendAt
import Derived.Deep.AppendLies
import Derived.WalkSpells
namespace Go.Proofs.Ytjapilpjahhimaa
open Go.RowKit Go.Shelf

/-- v reads as xs, in a block that was made behind block number n, or is nil -/
def New (n : Nat) (W : World) (v : Value) (xs : List Nat) : Prop := ∃ S, RdAt S W v xs ∧ S < W.heap.size ∧ (v = .slice none 0 0 ∨ n ≤ S)
theorem New.behind {n : Nat} {W W' : World} {v : Value} {xs : List Nat} (h : New n W v xs) (hb : Below W.heap.size W W') : New n W' v xs := by
  obtain ⟨S, h1, h2, h3⟩ := h
  exact ⟨S, h1.kept (hb.block S h2), Nat.lt_of_lt_of_le h2 hb.size, h3⟩

theorem below_drewN (B : Nat) (w : World) (k : Nat) : Below B w (w.drewN k) := ⟨rfl, rfl, rfl, Nat.le_refl _, fun _ _ => rfl⟩

set_option maxHeartbeats 1000000 in
theorem same_true (ba bb : Nat) (va vb : Value) (xs : List Nat) (hxl : xs.length ≤ 9223372036854775806) (w : World) (hA : RdAt ba w va xs) (hB : RdAt bb w vb xs) :
    Calls Try.prog 34 #[va, vb] w fun e w' => e = .returned (.bool true) ∧ Below w.heap.size w w' := by
  obtain ⟨a, cap, rfl, hcap, hsa⟩ := hA.slice
  obtain ⟨b, cbp, rfl, hcbp, hsb⟩ := hB.slice
  have hca : ∀ k, k < xs.length → ∀ off, a = some ⟨ba, off, none⟩ → w.cell? ⟨ba, off + k, none⟩ = some (.int .u64 (lim xs k : Int)) := by
    intro k hk off ha
    subst ha; exact hA.cell hk
  have hcb : ∀ k, k < xs.length → ∀ off, b = some ⟨bb, off, none⟩ → w.cell? ⟨bb, off + k, none⟩ = some (.int .u64 (lim xs k : Int)) := by
    intro k hk off ha
    subst ha; exact hB.cell hk
  have HA := Lib.hid hca
  have HB := Lib.hid hcb
  have HSA := Lib.hid hsa
  have HSB := Lib.hid hsb
  clear hca hcb hA hB hsa hsb
  generalize xs.length = m at *
  go_enter Try.func34, Try.ntmps34
  go_wp2
  go_loopw [5] (fun i wr => ∃ k : Nat, k ≤ m ∧ i = .int .i64 k ∧ ∃ q, wr = w.drewN q) (fun i _ => m - (intOf i).toNat)
  case atStart => exact ⟨0, Nat.zero_le _, rfl, 0, rfl⟩
  case round =>
    obtain ⟨k, hk, rfl, q, rfl⟩ := hrel
    by_cases hlt : k < m
    · obtain ⟨oa, rfl⟩ := HSA.out (by omega)
      obtain ⟨ob, rfl⟩ := HSB.out (by omega)
      have ka := HA.out k hlt oa rfl
      have kb := HB.out k hlt ob rfl
      go_wp2
      go_quiet (fail)
      go_wp2
      go_roundw
      case rel => exact ⟨k + 1, by omega, by simp, q + nq, rfl⟩
      case measure => simp [intOf]; omega
    · go_wp2
      go_ret
      exact ⟨rfl, below_drewN _ _ _⟩

theorem ownsRow_rd {W : World} {base m : Nat} {e : TypeId} {v : Value} {xs : List Nat} (h : W.ownsRow base e 1 v m (xs.map fun (x : Nat) => Value.int .u64 (x : Int))) : v = .slice none 0 0 ∧ xs = [] ∨ ∃ S, base ≤ S ∧ S < W.heap.size ∧ RdAt S W v xs := by
  have hm : m = xs.length := by have := h.1; simp at this; omega
  subst hm
  rcases h.2 with ⟨h1, h2⟩ | ⟨g, cap, cur, rfl, hb, hg, hn, _, _, _⟩
  · exact .inl ⟨h1, List.eq_nil_of_length_eq_zero h2⟩
  · refine .inr ⟨g, hb, (Array.getElem?_eq_some_iff.1 hg).1, .inr ⟨0, cap, rfl, hn, fun j hj => ?_⟩⟩
    rw [Nat.zero_add, h.cellAt j (by omega)]
    simp [lim, List.getElem?_eq_getElem hj]

set_option maxHeartbeats 1000000 in
theorem clone_some (b : Nat) (ad : Addr) (cap : Nat) (xs : List Nat) (hxl : xs.length ≤ 17592186044416) (w : World) (hb : b < w.heap.size)
    (HC : Hid (∀ j u, (xs.map fun (x : Nat) => Value.int .u64 (x : Int))[j]? = some u → w.cell? (ad.add j) = some u ∧ (ad.add j).block < w.heap.size)) :
    Calls Try.prog 89 #[.slice (some ad) xs.length cap] w fun e w' => ∃ v', e = .returned v' ∧ New w.heap.size w' v' xs ∧ Below w.heap.size w w' := by
  obtain ⟨i0, hi, hz0, hz1, hz2⟩ := info_parts info_u64
  have heq : ∀ u : World, (binOp .eql 22 (.slice (some ad) xs.length cap) (.slice none 0 0)).run Try.prog u = .ok (.bool false) u := fun u => Lib.run_eql_slice_nil u 22 49 _ _ _ _ _ Try.underlying22
  have hown : Hid ((w.alloc (.cells #[] 49)).ownsRow w.heap.size 49 1 (.slice (some ⟨w.heap.size, 0, none⟩) 0 0) 0 []) := Lib.hid (World.ownsRow_lit w #[] 0 (Nat.le_refl _) (by simp [maxLen]) rfl)
  have hnews : Hid (∀ j u, (xs.map fun (x : Nat) => Value.int .u64 (x : Int))[j]? = some u → (w.alloc (.cells #[] 49)).cell? (ad.add j) = some u) := Lib.hid (by
    intro j u hu
    obtain ⟨h1, h2⟩ := HC.out j u hu
    rw [World.cell?_alloc_lt w _ _ h2]
    exact h1)
  have hone : Hid (∀ u ∈ (xs.map fun (x : Nat) => Value.int .u64 (x : Int)), u.oneCell' = true) := Lib.hid (by intro u hu; obtain ⟨x, _, rfl⟩ := List.mem_map.1 hu; rfl)
  go_enter Try.func89, Try.ntmps89
  go_wp2_with (at_builtin; refine wpList_append_own _ rfl _ _ 22 rfl w.heap.size 49 i0 (.int .u64 0) 1 8 Try.underlying22 hi hz0 hz1 hz2 rfl (by decide) (.slice (some ⟨w.heap.size, 0, none⟩) 0 0) 0 [] rfl hown.out ad xs.length cap (xs.map fun (x : Nat) => Value.int .u64 (x : Int)) rfl (by simp) hnews.out hone.out (by simp only [maxLen]; omega) (by omega) (by simp) ?_; intro v' w1 hown' hgrow _)
  go_ret
  have hB1 : Below w.heap.size w w1 := ((Below.refl _ w).alloc (Nat.le_refl _) (.cells #[] 49)).grown hgrow (by simp) (fun k e => by simp [Value.ownBlock] at e; omega)
  refine ⟨_, rfl, ?_, hB1⟩
  rcases ownsRow_rd (by simpa using hown') with ⟨h1, h2⟩ | ⟨S, h1, h2, h3⟩
  · exact ⟨b, .inl ⟨⟨_, _, h1⟩, h2⟩, Nat.lt_of_lt_of_le hb hB1.size, .inl h1⟩
  · exact ⟨S, h3, h2, .inr h1⟩

set_option maxHeartbeats 1000000 in
theorem clone_calls (b : Nat) (v : Value) (xs : List Nat) (hxl : xs.length ≤ 17592186044416) (w : World) (hb : b < w.heap.size) (hI : RdAt b w v xs) :
    Calls Try.prog 89 #[v] w fun e w' => ∃ v', e = .returned v' ∧ New w.heap.size w' v' xs ∧ Below w.heap.size w w' := by
  rcases hI with ⟨⟨a, cap, rfl⟩, rfl⟩ | ⟨off, cap, rfl, hl, hc⟩
  · cases a with
    | some ad => exact clone_some b ad cap [] (by simp) w hb (Lib.hid (by intro j u hu; simp at hu))
    | none =>
      have heq : ∀ u : World, (binOp .eql 22 (.slice none 0 cap) (.slice none 0 0)).run Try.prog u = .ok (.bool true) u := fun u => Lib.run_eql_slice_nil u 22 49 _ _ _ _ _ Try.underlying22
      go_enter Try.func89, Try.ntmps89
      go_wp2
      go_ret
      exact ⟨_, rfl, ⟨b, .inl ⟨⟨_, _, rfl⟩, rfl⟩, hb, .inl rfl⟩, Below.refl _ _⟩
  · refine clone_some b ⟨b, off, none⟩ cap xs hxl w hb (Lib.hid ?_)
    intro j u hu
    have hj : j < xs.length := by
      rcases Nat.lt_or_ge j xs.length with h | h
      · exact h
      · rw [List.getElem?_eq_none (by simpa using h)] at hu; cases hu
    have e : u = .int .u64 (lim xs j : Int) := by
      simp [List.getElem?_eq_getElem hj] at hu
      rw [← hu]; simp [lim, List.getElem?_eq_getElem hj]
    have ha : (⟨b, off, none⟩ : Addr).add j = ⟨b, off + j, none⟩ := by
      unfold Addr.add; split <;> simp_all
    rw [ha, e]
    exact ⟨hc j hj, hb⟩

end Go.Proofs.Ytjapilpjahhimaa
