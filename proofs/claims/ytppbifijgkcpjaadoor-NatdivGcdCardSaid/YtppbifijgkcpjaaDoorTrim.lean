/- nat.trim: the part of a list of words without zeros at the end, in the list's own memory. -/
import Derived.Test.YtppbifijgkcpjaaDoorIter
namespace Go.Proofs.YtppbifijgkcpjaaDoor
open Go.RowKit Go.Shelf

attribute [local go_sem] Oper.semAt_some

theorem RdAt.slice {b : Nat} {W : World} {v : Value} {xs : List Nat} (h : RdAt b W v xs) : ∃ a cap, v = .slice a xs.length cap ∧ xs.length ≤ cap ∧ (0 < xs.length → ∃ off, a = some ⟨b, off, none⟩) := by
  rcases h with ⟨⟨a, cap, rfl⟩, rfl⟩ | ⟨off, cap, rfl, hl, _⟩
  · exact ⟨a, cap, rfl, Nat.zero_le _, fun h => absurd h (by simp)⟩
  · exact ⟨_, cap, rfl, hl, fun _ => ⟨off, rfl⟩⟩
theorem RdAt.take {b : Nat} {W : World} {xs : List Nat} {off cap k : Nat} (h : RdAt b W (.slice (some ⟨b, off, none⟩) xs.length cap) xs) (hk : k ≤ xs.length) : RdAt b W (.slice (some ⟨b, off, none⟩) k cap) (xs.take k) := by
  rcases h with ⟨_, rfl⟩ | ⟨off', cap', h, hl, hc⟩
  · obtain rfl : k = 0 := by simpa using hk
    exact .inl ⟨⟨_, _, rfl⟩, by simp⟩
  · cases h
    refine .inr ⟨off, cap, by simp [Nat.min_eq_left hk], by simp; omega, fun j hj => ?_⟩
    have hj' : j < k := by simp at hj; omega
    rw [lim_take hj']
    exact hc j (by omega)
theorem RdAt.cell {b : Nat} {W : World} {xs : List Nat} {off m cap j : Nat} (h : RdAt b W (.slice (some ⟨b, off, none⟩) m cap) xs) (hj : j < xs.length) : W.cell? ⟨b, off + j, none⟩ = some (.int .u64 (lim xs j : Int)) := by
  rcases h with ⟨_, rfl⟩ | ⟨off', cap', h, hl, hc⟩
  · exact absurd hj (by simp)
  · cases h; exact hc j hj
/-- what came in the order of 'dn', the last one apart -/
theorem dn_last {n k : Nat} {ini : List (Pl n)} {last : Pl n} (h : (ini ++ [last]).map Subtype.val = dn n k) (hk : k ≤ n) :
    ∃ k', k = k' + 1 ∧ last.1 = n - 1 - k' ∧ ini.map Subtype.val = dn n k' := by
  cases k with
  | zero => have := congrArg List.length h; simp [dn] at this
  | succ k' =>
    rw [dn_succ, List.map_append] at h
    obtain ⟨h1, h2⟩ := List.append_inj' h rfl
    exact ⟨k', rfl, by simpa using h2, h1⟩
theorem dn_mem {n k j : Nat} (h1 : n - k ≤ j) (h2 : j < n) : j ∈ dn n k := by
  simp only [dn, List.mem_map, List.mem_range]
  exact ⟨n - 1 - j, by omega, by omega⟩
theorem mem_of_map {n : Nat} {pre : List (Pl n)} {l : List Nat} (h : pre.map Subtype.val = l) {j : Nat} (hj : j ∈ l) : ∃ p ∈ pre, p.1 = j := by
  rw [← h] at hj
  obtain ⟨p, hp, e⟩ := List.mem_map.1 hj
  exact ⟨p, hp, e⟩

set_option maxRecDepth 100000 in
set_option maxHeartbeats 2000000 in
theorem trim_in (n : Nat) (hn : 4 ≤ n) (b : Nat) (v : Value) (xs : List Nat) (hreach : xs.length ≤ 9223372036854775806) (w : World) (hb : b < w.heap.size) (hI : RdAt b w v xs) :
    CallsIn Fence.wide n Tryd.prog 29 #[v] w fun e W' => ∃ v', e = .returned v' ∧ RdAt b W' v' (cutz xs) ∧ Below w.heap.size w W' := by
  obtain ⟨a, cap, rfl, hcap, hsome⟩ := hI.slice
  have h1 : 1 ≤ n := by omega
  refine callsIn_of_wp_marks Tryd.func29 rfl trivial ?_ rfl
  simp only [Tryd.ntmps29, List.size_toArray, List.length_cons, List.length_nil, Nat.reduceAdd, Nat.reduceSub, Array.replicate_succ, Array.replicate_zero, List.push_toArray, List.append_toArray, List.nil_append, List.cons_append]
  gi_wp2_with (refine ⟨trivial, ?_⟩; gi_at_call 19; refine (down_in Fence.wide (n - 1) trivial rfl _ _ _ _).mono ?_; rintro e w' ⟨rfl, rfl⟩)
  have bP := ((Boxed.new w 22 (.slice a xs.length cap)).alloc (.cells #[.slice none 0 0] 22)).alloc (.cells #[.slice a xs.length cap] 22)
  have bR := (Boxed.new (w.alloc (.cells #[.slice a xs.length cap] 22)) 22 (.slice none 0 0)).alloc (.cells #[.slice a xs.length cap] 22)
  have bN := Boxed.new ((w.alloc (.cells #[.slice a xs.length cap] 22)).alloc (.cells #[.slice none 0 0] 22)) 22 (.slice a xs.length cap)
  have hB0 : Below w.heap.size w (((w.alloc (.cells #[.slice a xs.length cap] 22)).alloc (.cells #[.slice none 0 0] 22)).alloc (.cells #[.slice a xs.length cap] 22)) :=
    (((Below.refl _ w).alloc (Nat.le_refl _) _).alloc (by simp) _).alloc (by simp; omega) _
  simp only [World.size_alloc] at bP bR bN
  have hI0 : RdAt b _ (.slice a xs.length cap) xs := hI.kept (hB0.block b hb)
  refine wpIn_rangeFunc_ownG rfl h1 (gf := 37) (lb := #[.pointer (some ⟨w.heap.size + 1 + 1, 0, none⟩)]) rfl trivial (enters_of Tryd.func37 (by kernel_rfl) rfl)
    (down_stops Fence.wide (n - 1) trivial rfl (by omega) (w.heap.size + 1 + 1) b _ xs (by omega) _ (by simp) (by simp; omega) bN.cell hI0) Keep.trans (keep_put (by simp) (by simp; omega)) (Below.refl _ _) (fun _ => rfl)
    (fun pre W => ((∀ p ∈ pre, lim xs p.1 = 0) ∧ Boxed W w.heap.size 22 (.slice a xs.length cap) ∧ Boxed W (w.heap.size + 1) 22 (.slice none 0 0)) ∧ Below w.heap.size w W)
    (fun c pre W => (c = .ret ∧ ∃ ini last, pre = ini ++ [last] ∧ (∀ p ∈ ini, lim xs p.1 = 0) ∧ lim xs last.1 ≠ 0 ∧ Boxed W (w.heap.size + 1) 22 (.slice a (last.1 + 1) cap)) ∧ Below w.heap.size w W)
    (OwnFrom.and (OwnFrom.and (ownFrom_pure _ _) (OwnFrom.and (Own.from (boxed_own _ _ _) _) (Own.from (boxed_own _ _ _) _))) (ownFrom_below (Nat.le_refl _) (by simp; omega)))
    (fun c => OwnFrom.and (Own.from (fun s X Y row hs hg hr => by
      obtain ⟨hc, ini, last, e1, e2, e3, e4⟩ := hs
      exact ⟨hc, ini, last, e1, e2, e3, boxed_own (β := Unit) _ _ (fun _ => _) () X Y row e4 hg hr⟩) _) (ownFrom_below (Nat.le_refl _) (by simp; omega)))
    ⟨⟨by simp, bP, bR⟩, hB0⟩
    (fun x => { tmps := #[.slice a xs.length cap, .pointer (some ⟨w.heap.size, 0, none⟩), .pointer (some ⟨w.heap.size + 1, 0, none⟩), .int .i64 (x.1 : Int), .int .u64 (lim xs x.1 : Int), .slice a xs.length cap, .func (.func 37) #[] #[.pointer (some ⟨w.heap.size + 1 + 1, 0, none⟩)], .int .i64 (x.1 : Int), .int .u64 (lim xs x.1 : Int), undef, undef, undef, undef, undef, undef], defers := [] }) ?assign ?body ?done ?stop
  case assign =>
    intro l x W K hK
    gi_wp2
    exact hK
  case body =>
    rintro l pre x W ⟨⟨hp, bP', bR'⟩, hB⟩ _
    have hx := x.2
    obtain ⟨off, rfl⟩ := hsome (by omega)
    have hcP := bP'.cell
    have hcR := bR'.cell
    have hfR := bR'.frozen
    by_cases h0 : lim xs x.1 = 0
    · have hd : ((lim xs x.1 : Int) != 0) = false := by simp [h0]
      have H0 := Lib.hid h0
      clear h0
      gi_wp2
      exact ⟨KeepsFrom.refl _ _, Keep.refl _ _ _, ⟨fun p hp' => (List.mem_append.1 hp').elim (hp p) (fun e => by simp at e; subst e; exact H0.out), bP', bR'⟩, hB⟩
    · have hd : ((lim xs x.1 : Int) != 0) = true := by simp [h0]
      have H0 := Lib.hid h0
      clear h0
      gi_wp2
      exact ⟨(KeepsOthers.setCell _ _ _).from _, ⟨rfl, pre, x, rfl, hp, H0.out, bR'.set _⟩, hB.setCell (p := ⟨w.heap.size + 1, 0, none⟩) (by simp) _⟩
  case done =>
    rintro D ys W hD hys ⟨⟨hz, bP', bR'⟩, hB⟩ hK
    simp only [World.size_alloc] at hD
    have HY := Lib.hid hys
    have hcR := bR'.cell
    have hfR := bR'.frozen
    clear hys
    gi_wp2
    have hK' := (KeepsOthers.setCell W ⟨w.heap.size + 1, 0, none⟩ (.slice none 0 0)).same D _ hK rfl
    have bR2 := (bR'.set (.slice none 0 0)).kept (grownBy_putObj' _ D (.deferred none)) (by simp; omega)
    have hc5 := bR2.cell
    have hz' : cutz xs = [] := cutz_none fun j hj => by
      obtain ⟨p, hp, e⟩ := mem_of_map HY.out (dn_mem (n := xs.length) (k := xs.length) (j := j) (by omega) hj)
      rw [← e]; exact hz p hp
    refine ⟨by simp, .inl ⟨_, _, rfl, run_takeDeferred hK', ?_⟩⟩
    refine ⟨.slice none 0 0, ?_, _, rfl, .inl ⟨⟨_, _, rfl⟩, hz'⟩, (hB.setCell (p := ⟨w.heap.size + 1, 0, none⟩) (by simp) _).trans (belowK_b (w := w) (Nat.le_refl _) _ D _ _ (by omega) hK' rfl rfl)⟩
    simp [results, Tryd.f29, go_sem, hc5]
  case stop =>
    rintro D c pre W hD ⟨k, hk, hpre⟩ ⟨⟨rfl, ini, last, e1, e2, e3, bR'⟩, hB⟩ hK
    simp only [World.size_alloc] at hD
    subst e1
    have HY := Lib.hid hpre
    have H3 := Lib.hid e3
    have H2 := Lib.hid e2
    clear hpre e3 e2
    gi_wp2
    have bR2 := bR'.kept (grownBy_putObj' _ D (.deferred none)) (by simp; omega)
    have hc5 := bR2.cell
    obtain ⟨k', rfl, hlast, hini⟩ := dn_last HY.out hk
    have hx := last.2
    obtain ⟨off, rfl⟩ := hsome (by omega)
    have hz' : cutz xs = xs.take (last.1 + 1) := cutz_take hx H3.out fun j hj hj' => by
      obtain ⟨p, hp, e⟩ := mem_of_map hini (dn_mem (n := xs.length) (k := k') (j := j) (by omega) hj')
      rw [← e]; exact H2.out p hp
    have hBf := hB.trans (belowK_b (w := w) (Nat.le_refl _) _ D _ (.deferred none) (by omega) hK rfl rfl)
    refine ⟨by simp, .inl ⟨_, _, rfl, run_takeDeferred hK, ?_⟩⟩
    refine ⟨.slice (some ⟨b, off, none⟩) (last.1 + 1) cap, ?_, _, rfl, ?_, hBf⟩
    · simp [results, Tryd.f29, go_sem, hc5]
    · rw [hz']
      exact RdAt.take (hI.kept (hBf.block b hb)) (by omega)
theorem trim_calls (b : Nat) (v : Value) (xs : List Nat) (hreach : xs.length ≤ 9223372036854775806) (w : World) (hb : b < w.heap.size) (hI : RdAt b w v xs) :
    Calls Tryd.prog 29 #[v] w fun e W' => ∃ v', e = .returned v' ∧ RdAt b W' v' (cutz xs) ∧ Below w.heap.size w W' :=
  callsIn_wide.1 (trim_in 4 (Nat.le_refl _) b v xs hreach w hb hI)
end Go.Proofs.YtppbifijgkcpjaaDoor
