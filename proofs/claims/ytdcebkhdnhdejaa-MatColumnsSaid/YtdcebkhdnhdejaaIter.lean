/- The program's two iterators over a list of words: from the lowest place up, from the highest down. Each hands over every place and its word, in order, to whatever loop body leaves the list's memory as it lay. -/
import Derived.RangeFuncNested
import Derived.RangeFuncBound
import Derived.RangeFuncCalls
import Derived.RangeFuncLeaves
import Derived.Shelf.Abstract
import Derived.Shelf.RegionOpen
import Derived.WalkKit
import Derived.OwnWalkIn
import Derived.TacticsInMore
import Derived.LoopNIn
import Derived.LoopIn
import Derived.Lib.Hide
import Derived.Test.YtdcebkhdnhdejaaProg
import Derived.Test.YtdcebkhdnhdejaaNum
namespace Go.Proofs.Ytdcebkhdnhdejaa
open Go.RowKit Go.Shelf

attribute [local go_sem] Oper.semAt_some

/-- the places of a list of n words -/
abbrev Pl (n : Nat) := { j : Nat // j < n }
abbrev encU (zs : List Nat) (x : Pl zs.length) : Array Value := #[.int .i64 (x.1 : Int), .int .u64 (lim zs x.1 : Int)]

/-- two blocks are as they were -/
def Keep (b c : Nat) (W W' : World) : Prop := W'.heap[b]? = W.heap[b]? ∧ W'.heap[c]? = W.heap[c]?
theorem Keep.refl (b c : Nat) (W : World) : Keep b c W W := ⟨rfl, rfl⟩
theorem Keep.trans {b c : Nat} {X Y Z : World} (h : Keep b c X Y) (k : Keep b c Y Z) : Keep b c X Z := ⟨k.1.trans h.1, k.2.trans h.2⟩
theorem keep_put {b c : Nat} {w : World} (hb : b < w.heap.size) (hc : c < w.heap.size) (W : World) (l : Nat) (o o' : Obj) (hl : w.heap.size ≤ l) (_ : W.heap[l]? = some o) (_ : o.isCells = false) (_ : o.isWalk = false) : Keep b c W (W.putObj l o') :=
  ⟨World.putObj_heap_other (by omega), World.putObj_heap_other (by omega)⟩
theorem Keep.cell1 {b c : Nat} {W W' : World} (h : Keep b c W W') (o : Nat) : W'.cell? ⟨b, o, none⟩ = W.cell? ⟨b, o, none⟩ := World.cell?_of_block (w := W) h.1
theorem Keep.cell2 {b c : Nat} {W W' : World} (h : Keep b c W W') (o : Nat) : W'.cell? ⟨c, o, none⟩ = W.cell? ⟨c, o, none⟩ := World.cell?_of_block (w := W) h.2

set_option maxRecDepth 100000 in
set_option maxHeartbeats 2000000 in
theorem up1_in (F : Fence) (n : Nat) (hf : F.fn 170) (hro : F.round = none) (hn : 1 ≤ n) (l Bs b off cap len : Nat) (zs : List Nat) (hreach : len ≤ 9223372036854775807) (J Jx : List (Pl len) → World → Prop)
    (hY : ∀ pre (x : Pl len) W, J pre W → pre.length < len → YieldAt F (n - 1) Try.prog l #[.int .i64 (x.1 : Int), .int .u64 (lim zs x.1 : Int)] W fun e W' =>
      (e = .returned (.bool true) ∧ J (pre ++ [x]) W' ∧ Keep Bs b W W') ∨ (e = .returned (.bool false) ∧ Jx (pre ++ [x]) W'))
    (W : World) (hBs : W.cell? ⟨Bs, 0, none⟩ = some (.slice (some ⟨b, off, none⟩) len cap)) (hc : ∀ j, j < len → W.cell? ⟨b, off + j, none⟩ = some (.int .u64 (lim zs j : Int))) (h0 : J [] W) :
    CallsIn F n Try.prog 170 #[.func (.yield l) #[] #[], .pointer (some ⟨Bs, 0, none⟩)] W fun e W' => (∃ v, e = .returned v) ∧
      ((∃ ys : List (Pl len), ys.map Subtype.val = List.range len ∧ J ys W') ∨ (∃ pre : List (Pl len), (∃ k, k ≤ len ∧ pre.map Subtype.val = List.range k) ∧ Jx pre W')) := by
  refine callsIn_of_wp Try.func170 rfl hf ?_ hro
  simp only [Try.ntmps170, List.size_toArray, List.length_cons, List.length_nil, Nat.reduceAdd, Nat.reduceSub, Array.replicate_succ, Array.replicate_zero, List.push_toArray, List.append_toArray, List.nil_append, List.cons_append]
  gi_wp2
  gi_loopw [3] (fun i wr => ∃ (k : Nat) (pre : List (Pl len)), k ≤ len ∧ i = .int .i64 k ∧ pre.map Subtype.val = List.range k ∧ J pre wr ∧ Keep Bs b W wr)
    (fun i _ => len - (intOf i).toNat)
  case atStart => exact ⟨0, [], Nat.zero_le _, rfl, rfl, h0, Keep.refl _ _ _⟩
  case round =>
    obtain ⟨k, pre, hk, rfl, hpre, hJs, hnx⟩ := hrel
    have hcb : wr.cell? ⟨Bs, 0, none⟩ = some (.slice (some ⟨b, off, none⟩) len cap) := (hnx.cell1 0).trans hBs
    have HP := Lib.hid hpre
    have HL : Hid (pre.length = k) := Lib.hid (by have := congrArg List.length HP.out; simpa using this)
    clear hpre
    by_cases hlt : k < len
    · obtain ⟨fn, tmps, assign, body, hy, hR⟩ := hY pre ⟨k, hlt⟩ wr hJs (by rw [HL.out]; exact hlt)
      dsimp only at hy
      have hcx : wr.cell? ⟨b, off + k, none⟩ = some (.int .u64 (lim zs k : Int)) := (hnx.cell2 _).trans (hc k hlt)
      gi_wp2
      refine hR.mono ?_
      rintro e W3 (⟨rfl, hJ3, hk3⟩ | ⟨rfl, hJx3⟩)
      · gi_wp2
        go_roundw
        case rel => exact ⟨k + 1, pre ++ [⟨k, by omega⟩], by omega, by simp, by rw [List.map_append, HP.out, List.range_succ]; rfl, hJ3, hnx.trans hk3⟩
        case measure => simp [intOf]; omega
      · gi_wp2
        refine bodyPost_ret (results_none rfl _ _ _) rfl ?_
        exact ⟨⟨_, rfl⟩, .inr ⟨_, ⟨k + 1, by omega, by rw [List.map_append, HP.out, List.range_succ]; rfl⟩, hJx3⟩⟩
    · obtain rfl : k = len := by omega
      gi_wp2
      go_end0
      exact ⟨⟨_, rfl⟩, .inl ⟨_, HP.out, hJs⟩⟩

/-- the places of a list of n words, from the highest down: the first k -/
def dn (n k : Nat) : List Nat := (List.range k).map fun j => n - 1 - j
theorem dn_length (n k : Nat) : (dn n k).length = k := by simp [dn]
theorem dn_succ (n k : Nat) : dn n (k + 1) = dn n k ++ [n - 1 - k] := by simp [dn, List.range_succ]

set_option maxRecDepth 100000 in
set_option maxHeartbeats 2000000 in
theorem down1_in (F : Fence) (n : Nat) (hf : F.fn 171) (hro : F.round = none) (hn : 1 ≤ n) (l Bs b off cap len : Nat) (zs : List Nat) (hreach : len ≤ 9223372036854775807) (J Jx : List (Pl len) → World → Prop)
    (hY : ∀ pre (x : Pl len) W, J pre W → pre.length < len → YieldAt F (n - 1) Try.prog l #[.int .i64 (x.1 : Int), .int .u64 (lim zs x.1 : Int)] W fun e W' =>
      (e = .returned (.bool true) ∧ J (pre ++ [x]) W' ∧ Keep Bs b W W') ∨ (e = .returned (.bool false) ∧ Jx (pre ++ [x]) W'))
    (W : World) (hBs : W.cell? ⟨Bs, 0, none⟩ = some (.slice (some ⟨b, off, none⟩) len cap)) (hc : ∀ j, j < len → W.cell? ⟨b, off + j, none⟩ = some (.int .u64 (lim zs j : Int))) (h0 : J [] W) :
    CallsIn F n Try.prog 171 #[.func (.yield l) #[] #[], .pointer (some ⟨Bs, 0, none⟩)] W fun e W' => (∃ v, e = .returned v) ∧
      ((∃ ys : List (Pl len), ys.map Subtype.val = dn len len ∧ J ys W') ∨ (∃ pre : List (Pl len), (∃ k, k ≤ len ∧ pre.map Subtype.val = dn len k) ∧ Jx pre W')) := by
  refine callsIn_of_wp Try.func171 rfl hf ?_ hro
  simp only [Try.ntmps171, List.size_toArray, List.length_cons, List.length_nil, Nat.reduceAdd, Nat.reduceSub, Array.replicate_succ, Array.replicate_zero, List.push_toArray, List.append_toArray, List.nil_append, List.cons_append]
  gi_wp2
  gi_loopw [3] (fun i wr => ∃ (r : Nat) (z : Int) (pre : List (Pl len)), r ≤ len ∧ z = (r : Int) - 1 ∧ i = .int .i64 z ∧ pre.map Subtype.val = dn len (len - r) ∧ J pre wr ∧ Keep Bs b W wr)
    (fun i _ => ((intOf i) + 1).toNat)
  case atStart => exact ⟨len, _, [], Nat.le_refl _, rfl, rfl, by simp [dn], h0, Keep.refl _ _ _⟩
  case round =>
    obtain ⟨r, z, pre, hk, hz, rfl, hpre, hJs, hnx⟩ := hrel
    have hcb : wr.cell? ⟨Bs, 0, none⟩ = some (.slice (some ⟨b, off, none⟩) len cap) := (hnx.cell1 0).trans hBs
    have HP := Lib.hid hpre
    have HL : Hid (pre.length = len - r) := Lib.hid (by have := congrArg List.length HP.out; simpa [dn] using this)
    clear hpre
    by_cases h0z : 0 ≤ z
    · obtain ⟨q, rfl⟩ := Int.eq_ofNat_of_zero_le h0z
      obtain rfl : r = q + 1 := by omega
      clear hz
      have hlt : q < len := by omega
      have hsq : Hid (dn len (len - (q + 1)) ++ [q] = dn len (len - q)) := Lib.hid (by
        have := dn_succ len (len - (q + 1))
        rw [show len - (q + 1) + 1 = len - q by omega, show len - 1 - (len - (q + 1)) = q by omega] at this
        exact this.symm)
      obtain ⟨fn, tmps, assign, body, hy, hR⟩ := hY pre ⟨q, hlt⟩ wr hJs (by rw [HL.out]; omega)
      dsimp only at hy
      have hcx : wr.cell? ⟨b, off + q, none⟩ = some (.int .u64 (lim zs q : Int)) := (hnx.cell2 _).trans (hc q hlt)
      gi_wp2
      refine hR.mono ?_
      rintro e W3 (⟨rfl, hJ3, hk3⟩ | ⟨rfl, hJx3⟩)
      · gi_wp2
        go_roundw
        case rel => exact ⟨q, (q : Int) - 1, pre ++ [⟨q, hlt⟩], by omega, rfl, rfl, by rw [List.map_append, HP.out]; exact hsq.out, hJ3, hnx.trans hk3⟩
        case measure => simp [intOf]
      · gi_wp2
        refine bodyPost_ret (results_none rfl _ _ _) rfl ?_
        exact ⟨⟨_, rfl⟩, .inr ⟨_, ⟨len - q, by omega, by rw [List.map_append, HP.out]; exact hsq.out⟩, hJx3⟩⟩
    · obtain rfl : r = 0 := by omega
      obtain rfl : z = -1 := by omega
      clear hz
      gi_wp2
      go_end0
      exact ⟨⟨_, rfl⟩, .inl ⟨_, HP.out, hJs⟩⟩

/-- the slice value v reads as the words xs; it lies in block b, or has none -/
def RdAt (b : Nat) (W : World) (v : Value) (xs : List Nat) : Prop :=
  ((∃ a cap, v = .slice a 0 cap) ∧ xs = []) ∨ ∃ off cap, v = .slice (some ⟨b, off, none⟩) xs.length cap ∧ xs.length ≤ cap ∧ ∀ j, j < xs.length → W.cell? ⟨b, off + j, none⟩ = some (.int .u64 (lim xs j : Int))
theorem RdAt.kept {b : Nat} {W W' : World} {v : Value} {xs : List Nat} (h : RdAt b W v xs) (hk : W'.heap[b]? = W.heap[b]?) : RdAt b W' v xs := by
  rcases h with h | ⟨off, cap, e, hl, hc⟩
  · exact .inl h
  · exact .inr ⟨off, cap, e, hl, fun j hj => (World.cell?_of_block (w := W) hk).trans (hc j hj)⟩

set_option maxRecDepth 100000 in
set_option maxHeartbeats 1000000 in
theorem up1_nil_in {α : Type} (F : Fence) (n : Nat) (hf : F.fn 170) (hro : F.round = none) (l Bs : Nat) (J : List α → World → Prop) (W : World) (a : Option Addr) (cap : Nat) (hBs : W.cell? ⟨Bs, 0, none⟩ = some (.slice a 0 cap)) (h0 : J [] W) :
    CallsIn F n Try.prog 170 #[.func (.yield l) #[] #[], .pointer (some ⟨Bs, 0, none⟩)] W fun e W' => (∃ v, e = .returned v) ∧ J [] W' := by
  refine callsIn_of_wp Try.func170 rfl hf ?_ hro
  simp only [Try.ntmps170, List.size_toArray, List.length_cons, List.length_nil, Nat.reduceAdd, Nat.reduceSub, Array.replicate_succ, Array.replicate_zero, List.push_toArray, List.append_toArray, List.nil_append, List.cons_append]
  gi_wp2
  gi_loopw [3] (fun i wr => i = .int .i64 (0) ∧ J [] wr ∧ wr.cell? ⟨Bs, 0, none⟩ = some (.slice a 0 cap)) (fun _ _ => 0)
  case atStart => exact ⟨rfl, h0, hBs⟩
  case round =>
    obtain ⟨rfl, hJs, hcb⟩ := hrel
    gi_wp2
    go_end0
    exact ⟨⟨_, rfl⟩, hJs⟩

theorem up_in (F : Fence) (n : Nat) (hf : F.fn 158) (hro : F.round = none) (a : Option Addr) (len cap : Nat) (w : World) :
    CallsIn F n Try.prog 158 #[.slice a len cap] w fun e w' => e = .returned (.func (.func 170) #[] #[.pointer (some ⟨w.heap.size, 0, none⟩)]) ∧ w' = w.alloc (.cells #[.slice a len cap] 22) := by
  refine callsIn_of_wp Try.func158 rfl hf ?_ hro
  simp only [Try.ntmps158, List.size_toArray, List.length_cons, List.length_nil, Nat.reduceAdd, Nat.reduceSub, Array.replicate_succ, Array.replicate_zero, List.push_toArray, List.append_toArray, List.nil_append, List.cons_append]
  gi_wp2
  go_ret
  exact ⟨rfl, rfl⟩

/-- the block in which a slice lies (of nil: another one that is named) -/
theorem up_stops (F : Fence) (n : Nat) (hf : F.fn 170) (hro : F.round = none) (hn : 1 ≤ n) (Bs b : Nat) (sv : Value) (zs : List Nat) (hreach : zs.length ≤ 9223372036854775807) (w : World) (hBs : Bs < w.heap.size) (hb : b < w.heap.size)
    (hc : w.cell? ⟨Bs, 0, none⟩ = some sv) (hI : RdAt b w sv zs) :
    SeqStopsK F n Try.prog 170 #[.pointer (some ⟨Bs, 0, none⟩)] (encU zs) (Keep Bs b) (fun ys => ys.map Subtype.val = List.range zs.length)
      (fun pre => ∃ k, k ≤ zs.length ∧ pre.map Subtype.val = List.range k) zs.length w := fun l J Jx W hW _ _ hY h0 => by
  have hc' := (hW.cell (p := ⟨Bs, 0, none⟩) hBs).trans hc
  rcases hI with ⟨⟨a, cap, rfl⟩, rfl⟩ | ⟨off, cap, rfl, hl, hcs⟩
  · exact (up1_nil_in F n hf hro l Bs J W a cap hc' h0).mono fun e W' ⟨he, hj⟩ => ⟨he, .inl ⟨[], rfl, hj⟩⟩
  · exact up1_in F n hf hro hn l Bs b off cap zs.length zs hreach J Jx hY W hc' (fun j hj => (hW.cell (p := ⟨b, off + j, none⟩) hb).trans (hcs j hj)) h0

set_option maxRecDepth 100000 in
set_option maxHeartbeats 1000000 in
theorem down1_nil_in {α : Type} (F : Fence) (n : Nat) (hf : F.fn 171) (hro : F.round = none) (l Bs : Nat) (J : List α → World → Prop) (W : World) (a : Option Addr) (cap : Nat) (hBs : W.cell? ⟨Bs, 0, none⟩ = some (.slice a 0 cap)) (h0 : J [] W) :
    CallsIn F n Try.prog 171 #[.func (.yield l) #[] #[], .pointer (some ⟨Bs, 0, none⟩)] W fun e W' => (∃ v, e = .returned v) ∧ J [] W' := by
  refine callsIn_of_wp Try.func171 rfl hf ?_ hro
  simp only [Try.ntmps171, List.size_toArray, List.length_cons, List.length_nil, Nat.reduceAdd, Nat.reduceSub, Array.replicate_succ, Array.replicate_zero, List.push_toArray, List.append_toArray, List.nil_append, List.cons_append]
  gi_wp2
  gi_loopw [3] (fun i wr => i = .int .i64 (-1) ∧ J [] wr ∧ wr.cell? ⟨Bs, 0, none⟩ = some (.slice a 0 cap)) (fun _ _ => 0)
  case atStart => exact ⟨rfl, h0, hBs⟩
  case round =>
    obtain ⟨rfl, hJs, hcb⟩ := hrel
    gi_wp2
    go_end0
    exact ⟨⟨_, rfl⟩, hJs⟩

theorem down_in (F : Fence) (n : Nat) (hf : F.fn 161) (hro : F.round = none) (a : Option Addr) (len cap : Nat) (w : World) :
    CallsIn F n Try.prog 161 #[.slice a len cap] w fun e w' => e = .returned (.func (.func 171) #[] #[.pointer (some ⟨w.heap.size, 0, none⟩)]) ∧ w' = w.alloc (.cells #[.slice a len cap] 22) := by
  refine callsIn_of_wp Try.func161 rfl hf ?_ hro
  simp only [Try.ntmps161, List.size_toArray, List.length_cons, List.length_nil, Nat.reduceAdd, Nat.reduceSub, Array.replicate_succ, Array.replicate_zero, List.push_toArray, List.append_toArray, List.nil_append, List.cons_append]
  gi_wp2
  go_ret
  exact ⟨rfl, rfl⟩

/-- the block in which a slice lies (of nil: another one that is named) -/
theorem down_stops (F : Fence) (n : Nat) (hf : F.fn 171) (hro : F.round = none) (hn : 1 ≤ n) (Bs b : Nat) (sv : Value) (zs : List Nat) (hreach : zs.length ≤ 9223372036854775807) (w : World) (hBs : Bs < w.heap.size) (hb : b < w.heap.size)
    (hc : w.cell? ⟨Bs, 0, none⟩ = some sv) (hI : RdAt b w sv zs) :
    SeqStopsK F n Try.prog 171 #[.pointer (some ⟨Bs, 0, none⟩)] (encU zs) (Keep Bs b) (fun ys => ys.map Subtype.val = dn zs.length zs.length)
      (fun pre => ∃ k, k ≤ zs.length ∧ pre.map Subtype.val = dn zs.length k) zs.length w := fun l J Jx W hW _ _ hY h0 => by
  have hc' := (hW.cell (p := ⟨Bs, 0, none⟩) hBs).trans hc
  rcases hI with ⟨⟨a, cap, rfl⟩, rfl⟩ | ⟨off, cap, rfl, hl, hcs⟩
  · exact (down1_nil_in F n hf hro l Bs J W a cap hc' h0).mono fun e W' ⟨he, hj⟩ => ⟨he, .inl ⟨[], rfl, hj⟩⟩
  · exact down1_in F n hf hro hn l Bs b off cap zs.length zs hreach J Jx hY W hc' (fun j hj => (hW.cell (p := ⟨b, off + j, none⟩) hb).trans (hcs j hj)) h0
end Go.Proofs.Ytdcebkhdnhdejaa

/- nat.trim: the part of a list of words without zeros at the end, in the list's own memory. -/
namespace Go.Proofs.Ytdcebkhdnhdejaa
open Go.RowKit Go.Shelf

attribute [local go_sem] Oper.semAt_some

theorem RdAt.slice {b : Nat} {W : World} {v : Value} {xs : List Nat} (h : RdAt b W v xs) : ∃ a cap, v = .slice a xs.length cap ∧ xs.length ≤ cap ∧ (0 < xs.length → ∃ off, a = some ⟨b, off, none⟩) := by
  rcases h with ⟨⟨a, cap, rfl⟩, rfl⟩ | ⟨off, cap, rfl, hl, _⟩
  · exact ⟨a, cap, rfl, Nat.zero_le _, fun h => absurd h (by simp)⟩
  · exact ⟨_, cap, rfl, hl, fun _ => ⟨off, rfl⟩⟩
theorem RdAt.take {b : Nat} {W : World} {xs : List Nat} {off cap k : Nat} (h : RdAt b W (.slice (some ⟨b, off, none⟩) xs.length cap) xs) (hk : k ≤ xs.length) : RdAt b W (.slice (some ⟨b, off, none⟩) k cap) (xs.take k) := by
  rcases h with ⟨_, rfl⟩ | ⟨off', cap', h, hl, hc⟩
  · obtain rfl : k = 0 := by simpa using hk
    exact .inl ⟨⟨_, _, rfl⟩, by simp⟩
  · cases h
    refine .inr ⟨off, cap, by simp [Nat.min_eq_left hk], by simp; omega, fun j hj => ?_⟩
    have hj' : j < k := by simp at hj; omega
    rw [lim_take hj']
    exact hc j (by omega)
theorem RdAt.cell {b : Nat} {W : World} {xs : List Nat} {off m cap j : Nat} (h : RdAt b W (.slice (some ⟨b, off, none⟩) m cap) xs) (hj : j < xs.length) : W.cell? ⟨b, off + j, none⟩ = some (.int .u64 (lim xs j : Int)) := by
  rcases h with ⟨_, rfl⟩ | ⟨off', cap', h, hl, hc⟩
  · exact absurd hj (by simp)
  · cases h; exact hc j hj
/-- what came in the order of 'dn', the last one apart -/
theorem dn_last {n k : Nat} {ini : List (Pl n)} {last : Pl n} (h : (ini ++ [last]).map Subtype.val = dn n k) (hk : k ≤ n) :
    ∃ k', k = k' + 1 ∧ last.1 = n - 1 - k' ∧ ini.map Subtype.val = dn n k' := by
  cases k with
  | zero => have := congrArg List.length h; simp [dn] at this
  | succ k' =>
    rw [dn_succ, List.map_append] at h
    obtain ⟨h1, h2⟩ := List.append_inj' h rfl
    exact ⟨k', rfl, by simpa using h2, h1⟩
theorem dn_mem {n k j : Nat} (h1 : n - k ≤ j) (h2 : j < n) : j ∈ dn n k := by
  simp only [dn, List.mem_map, List.mem_range]
  exact ⟨n - 1 - j, by omega, by omega⟩
theorem mem_of_map {n : Nat} {pre : List (Pl n)} {l : List Nat} (h : pre.map Subtype.val = l) {j : Nat} (hj : j ∈ l) : ∃ p ∈ pre, p.1 = j := by
  rw [← h] at hj
  obtain ⟨p, hp, e⟩ := List.mem_map.1 hj
  exact ⟨p, hp, e⟩

set_option maxRecDepth 100000 in
set_option maxHeartbeats 2000000 in
theorem trim_in (n : Nat) (hn : 4 ≤ n) (b : Nat) (v : Value) (xs : List Nat) (hreach : xs.length ≤ 9223372036854775806) (w : World) (hb : b < w.heap.size) (hI : RdAt b w v xs) :
    CallsIn Fence.wide n Try.prog 157 #[v] w fun e W' => ∃ v', e = .returned v' ∧ RdAt b W' v' (cutz xs) ∧ Below w.heap.size w W' := by
  obtain ⟨a, cap, rfl, hcap, hsome⟩ := hI.slice
  have h1 : 1 ≤ n := by omega
  refine callsIn_of_wp_marks Try.func157 rfl trivial ?_ rfl
  simp only [Try.ntmps157, List.size_toArray, List.length_cons, List.length_nil, Nat.reduceAdd, Nat.reduceSub, Array.replicate_succ, Array.replicate_zero, List.push_toArray, List.append_toArray, List.nil_append, List.cons_append]
  gi_wp2_with (refine ⟨trivial, ?_⟩; gi_at_call 161; refine (down_in Fence.wide (n - 1) trivial rfl _ _ _ _).mono ?_; rintro e w' ⟨rfl, rfl⟩)
  have bP := ((Boxed.new w 22 (.slice a xs.length cap)).alloc (.cells #[.slice none 0 0] 22)).alloc (.cells #[.slice a xs.length cap] 22)
  have bR := (Boxed.new (w.alloc (.cells #[.slice a xs.length cap] 22)) 22 (.slice none 0 0)).alloc (.cells #[.slice a xs.length cap] 22)
  have bN := Boxed.new ((w.alloc (.cells #[.slice a xs.length cap] 22)).alloc (.cells #[.slice none 0 0] 22)) 22 (.slice a xs.length cap)
  have hB0 : Below w.heap.size w (((w.alloc (.cells #[.slice a xs.length cap] 22)).alloc (.cells #[.slice none 0 0] 22)).alloc (.cells #[.slice a xs.length cap] 22)) :=
    (((Below.refl _ w).alloc (Nat.le_refl _) _).alloc (by simp) _).alloc (by simp; omega) _
  simp only [World.size_alloc] at bP bR bN
  have hI0 : RdAt b _ (.slice a xs.length cap) xs := hI.kept (hB0.block b hb)
  refine wpIn_rangeFunc_ownG rfl h1 (gf := 171) (lb := #[.pointer (some ⟨w.heap.size + 1 + 1, 0, none⟩)]) rfl trivial (enters_of Try.func171 (by kernel_rfl) rfl)
    (down_stops Fence.wide (n - 1) trivial rfl (by omega) (w.heap.size + 1 + 1) b _ xs (by omega) _ (by simp) (by simp; omega) bN.cell hI0) Keep.trans (keep_put (by simp) (by simp; omega)) (Below.refl _ _) (fun _ => rfl)
    (fun pre W => ((∀ p ∈ pre, lim xs p.1 = 0) ∧ Boxed W w.heap.size 22 (.slice a xs.length cap) ∧ Boxed W (w.heap.size + 1) 22 (.slice none 0 0)) ∧ Below w.heap.size w W)
    (fun c pre W => (c = .ret ∧ ∃ ini last, pre = ini ++ [last] ∧ (∀ p ∈ ini, lim xs p.1 = 0) ∧ lim xs last.1 ≠ 0 ∧ Boxed W (w.heap.size + 1) 22 (.slice a (last.1 + 1) cap)) ∧ Below w.heap.size w W)
    (OwnFrom.and (OwnFrom.and (ownFrom_pure _ _) (OwnFrom.and (Own.from (boxed_own _ _ _) _) (Own.from (boxed_own _ _ _) _))) (ownFrom_below (Nat.le_refl _) (by simp; omega)))
    (fun c => OwnFrom.and (Own.from (fun s X Y row hs hg hr => by
      obtain ⟨hc, ini, last, e1, e2, e3, e4⟩ := hs
      exact ⟨hc, ini, last, e1, e2, e3, boxed_own (β := Unit) _ _ (fun _ => _) () X Y row e4 hg hr⟩) _) (ownFrom_below (Nat.le_refl _) (by simp; omega)))
    ⟨⟨by simp, bP, bR⟩, hB0⟩
    (fun x => { tmps := #[.slice a xs.length cap, .pointer (some ⟨w.heap.size, 0, none⟩), .pointer (some ⟨w.heap.size + 1, 0, none⟩), .int .i64 (x.1 : Int), .int .u64 (lim xs x.1 : Int), .slice a xs.length cap, .func (.func 171) #[] #[.pointer (some ⟨w.heap.size + 1 + 1, 0, none⟩)], .int .i64 (x.1 : Int), .int .u64 (lim xs x.1 : Int), undef, undef, undef, undef, undef, undef], defers := [] }) ?assign ?body ?done ?stop
  case assign =>
    intro l x W K hK
    gi_wp2
    exact hK
  case body =>
    rintro l pre x W ⟨⟨hp, bP', bR'⟩, hB⟩ _
    have hx := x.2
    obtain ⟨off, rfl⟩ := hsome (by omega)
    have hcP := bP'.cell
    have hcR := bR'.cell
    have hfR := bR'.frozen
    by_cases h0 : lim xs x.1 = 0
    · have hd : ((lim xs x.1 : Int) != 0) = false := by simp [h0]
      have H0 := Lib.hid h0
      clear h0
      gi_wp2
      exact ⟨KeepsFrom.refl _ _, Keep.refl _ _ _, ⟨fun p hp' => (List.mem_append.1 hp').elim (hp p) (fun e => by simp at e; subst e; exact H0.out), bP', bR'⟩, hB⟩
    · have hd : ((lim xs x.1 : Int) != 0) = true := by simp [h0]
      have H0 := Lib.hid h0
      clear h0
      gi_wp2
      exact ⟨(KeepsOthers.setCell _ _ _).from _, ⟨rfl, pre, x, rfl, hp, H0.out, bR'.set _⟩, hB.setCell (p := ⟨w.heap.size + 1, 0, none⟩) (by simp) _⟩
  case done =>
    rintro D ys W hD hys ⟨⟨hz, bP', bR'⟩, hB⟩ hK
    simp only [World.size_alloc] at hD
    have HY := Lib.hid hys
    have hcR := bR'.cell
    have hfR := bR'.frozen
    clear hys
    gi_wp2
    have hK' := (KeepsOthers.setCell W ⟨w.heap.size + 1, 0, none⟩ (.slice none 0 0)).same D _ hK rfl
    have bR2 := (bR'.set (.slice none 0 0)).kept (grownBy_putObj' _ D (.deferred none)) (by simp; omega)
    have hc5 := bR2.cell
    have hz' : cutz xs = [] := cutz_none fun j hj => by
      obtain ⟨p, hp, e⟩ := mem_of_map HY.out (dn_mem (n := xs.length) (k := xs.length) (j := j) (by omega) hj)
      rw [← e]; exact hz p hp
    refine ⟨by simp, .inl ⟨_, _, rfl, run_takeDeferred hK', ?_⟩⟩
    refine ⟨.slice none 0 0, ?_, _, rfl, .inl ⟨⟨_, _, rfl⟩, hz'⟩, (hB.setCell (p := ⟨w.heap.size + 1, 0, none⟩) (by simp) _).trans (belowK_b (w := w) (Nat.le_refl _) _ D _ _ (by omega) hK' rfl rfl)⟩
    simp [results, Try.f157, go_sem, hc5]
  case stop =>
    rintro D c pre W hD ⟨k, hk, hpre⟩ ⟨⟨rfl, ini, last, e1, e2, e3, bR'⟩, hB⟩ hK
    simp only [World.size_alloc] at hD
    subst e1
    have HY := Lib.hid hpre
    have H3 := Lib.hid e3
    have H2 := Lib.hid e2
    clear hpre e3 e2
    gi_wp2
    have bR2 := bR'.kept (grownBy_putObj' _ D (.deferred none)) (by simp; omega)
    have hc5 := bR2.cell
    obtain ⟨k', rfl, hlast, hini⟩ := dn_last HY.out hk
    have hx := last.2
    obtain ⟨off, rfl⟩ := hsome (by omega)
    have hz' : cutz xs = xs.take (last.1 + 1) := cutz_take hx H3.out fun j hj hj' => by
      obtain ⟨p, hp, e⟩ := mem_of_map hini (dn_mem (n := xs.length) (k := k') (j := j) (by omega) hj')
      rw [← e]; exact H2.out p hp
    have hBf := hB.trans (belowK_b (w := w) (Nat.le_refl _) _ D _ (.deferred none) (by omega) hK rfl rfl)
    refine ⟨by simp, .inl ⟨_, _, rfl, run_takeDeferred hK, ?_⟩⟩
    refine ⟨.slice (some ⟨b, off, none⟩) (last.1 + 1) cap, ?_, _, rfl, ?_, hBf⟩
    · simp [results, Try.f157, go_sem, hc5]
    · rw [hz']
      exact RdAt.take (hI.kept (hBf.block b hb)) (by omega)
theorem trim_calls (b : Nat) (v : Value) (xs : List Nat) (hreach : xs.length ≤ 9223372036854775806) (w : World) (hb : b < w.heap.size) (hI : RdAt b w v xs) :
    Calls Try.prog 157 #[v] w fun e W' => ∃ v', e = .returned v' ∧ RdAt b W' v' (cutz xs) ∧ Below w.heap.size w W' :=
  callsIn_wide.1 (trim_in 4 (Nat.le_refl _) b v xs hreach w hb hI)
end Go.Proofs.Ytdcebkhdnhdejaa
