/- perm: isRow, Check, Identity, Inverse, Then: what the calls keep. -/
import Derived.Test.YtgppbimbampenaaPeIs
import Derived.Test.YtgppbimbampenaaOz
import Derived.Test.YtgppbimbampenaaShSpec
namespace Go.Proofs.Ytgppbimbampenaa
open Go.RowKit Go.Shelf
def rowB (z n : Int) : Bool := decide (0 ≤ z ∧ z < n)
theorem rowB_iff {z n : Int} : rowB z n = true ↔ 0 ≤ z ∧ z < n := decide_eq_true_iff
theorem rowB_no {z n : Int} : rowB z n = false ↔ ¬ (0 ≤ z ∧ z < n) := decide_eq_false_iff_not
theorem perm_row {z n : Int} {w : World} : Calls Try.prog 63 #[.int .i64 z, .int .i64 n] w fun e W' => e = .returned (.bool (rowB z n)) ∧ w = W' := by
  by_cases k1 : 0 ≤ z
  · by_cases k2 : z < n
    · rw [show rowB z n = true from decide_eq_true ⟨k1, k2⟩]
      go_enter Try.func63, Try.ntmps63
      go_wp2
      go_ret
      exact ⟨rfl, rfl⟩
    · rw [show rowB z n = false from decide_eq_false (fun h => k2 h.2)]
      go_enter Try.func63, Try.ntmps63
      go_wp2
      go_ret
      exact ⟨rfl, rfl⟩
  · rw [show rowB z n = false from decide_eq_false (fun h => k1 h.1)]
    go_enter Try.func63, Try.ntmps63
    go_wp2
    go_ret
    exact ⟨rfl, rfl⟩
/-- the array of what was met -/
def metA (zs : List Int) (k : Nat) : Array Value := ((List.range 64).map fun r => Value.bool (met zs k r)).toArray
theorem metA_at {zs : List Int} {k r : Nat} (h : r < 64) : (metA zs k)[r]? = some (.bool (met zs k r)) := by
  unfold metA
  rw [List.getElem?_toArray, List.getElem?_map, List.getElem?_range h]
  rfl
theorem metA_set {zs : List Int} {k r : Nat} (hr : zat zs k = (r : Int)) : (metA zs k).setIfInBounds r (.bool true) = metA zs (k + 1) := by
  apply Array.ext'
  rw [Array.toList_setIfInBounds]
  unfold metA
  apply List.ext_getElem
  · simp
  · intro i h1 h2
    have hi : i < 64 := by simpa using h2
    rw [List.getElem_set]
    simp only [List.getElem_map, List.getElem_range, met_succ, hr]
    by_cases e : r = i
    · subst e; simp
    · rw [if_neg e]
      have : ((r : Int) == (i : Int)) = false := beq_eq_false_iff_ne.2 (by omega)
      rw [this, Bool.or_false]
theorem metA_zero (zs : List Int) : metA zs 0 = #[.bool false, .bool false, .bool false, .bool false, .bool false, .bool false, .bool false, .bool false, .bool false, .bool false, .bool false, .bool false, .bool false, .bool false, .bool false, .bool false, .bool false, .bool false, .bool false, .bool false, .bool false, .bool false, .bool false, .bool false, .bool false, .bool false, .bool false, .bool false, .bool false, .bool false, .bool false, .bool false, .bool false, .bool false, .bool false, .bool false, .bool false, .bool false, .bool false, .bool false, .bool false, .bool false, .bool false, .bool false, .bool false, .bool false, .bool false, .bool false, .bool false, .bool false, .bool false, .bool false, .bool false, .bool false, .bool false, .bool false, .bool false, .bool false, .bool false, .bool false, .bool false, .bool false, .bool false, .bool false] := rfl
def chkP (zs : List Int) : Int := if permB zs then 0 else 9
set_option maxRecDepth 100000 in
set_option maxHeartbeats 4000000 in
theorem perm_check {v : Value} {zs : List Int} {w : World} (hA : ArgK .i64 w v zs) : Calls Try.prog 23 #[v] w fun e W' => e = .returned (.int .i64 (chkP zs)) ∧ Below w.heap.size w W' := by
  obtain ⟨S, a, cap, hS, rfl, hcap, HA⟩ := hA.opened
  have HY : Hid (zs.length ≤ 64 → good zs zs.length → chkP zs = 0) := Lib.hid (fun h1 h2 => by unfold chkP; rw [permB_iff.2 ⟨h1, h2⟩]; rfl)
  have HN : Hid (∀ k, k ≤ zs.length → ¬ good zs k → chkP zs = 9) := Lib.hid (fun k hk h => by unfold chkP; rw [permB_not hk h]; rfl)
  have HL : Hid (64 < zs.length → chkP zs = 9) := Lib.hid (fun h => by
    unfold chkP
    rw [show permB zs = false from by rw [Bool.eq_false_iff]; intro q; have := (permB_iff.1 q).1; omega]; rfl)
  have HG0 := Lib.hid (good_zero zs)
  have HGO := Lib.hid (fun k => @good_out zs k)
  have HGM := Lib.hid (fun k r => @good_met zs k r)
  have HGS := Lib.hid (fun k r => @good_step zs k r)
  have HMA := Lib.hid (fun k r => @metA_at zs k r)
  have HMS := Lib.hid (fun k r => @metA_set zs k r)
  have hB : Below w.heap.size w (w.alloc (.cells #[.bool false, .bool false, .bool false, .bool false, .bool false, .bool false, .bool false, .bool false, .bool false, .bool false, .bool false, .bool false, .bool false, .bool false, .bool false, .bool false, .bool false, .bool false, .bool false, .bool false, .bool false, .bool false, .bool false, .bool false, .bool false, .bool false, .bool false, .bool false, .bool false, .bool false, .bool false, .bool false, .bool false, .bool false, .bool false, .bool false, .bool false, .bool false, .bool false, .bool false, .bool false, .bool false, .bool false, .bool false, .bool false, .bool false, .bool false, .bool false, .bool false, .bool false, .bool false, .bool false, .bool false, .bool false, .bool false, .bool false, .bool false, .bool false, .bool false, .bool false, .bool false, .bool false, .bool false, .bool false] 92)) := (Below.refl w.heap.size w).alloc (Nat.le_refl _) _
  have hM : Ms (w.alloc (.cells #[.bool false, .bool false, .bool false, .bool false, .bool false, .bool false, .bool false, .bool false, .bool false, .bool false, .bool false, .bool false, .bool false, .bool false, .bool false, .bool false, .bool false, .bool false, .bool false, .bool false, .bool false, .bool false, .bool false, .bool false, .bool false, .bool false, .bool false, .bool false, .bool false, .bool false, .bool false, .bool false, .bool false, .bool false, .bool false, .bool false, .bool false, .bool false, .bool false, .bool false, .bool false, .bool false, .bool false, .bool false, .bool false, .bool false, .bool false, .bool false, .bool false, .bool false, .bool false, .bool false, .bool false, .bool false, .bool false, .bool false, .bool false, .bool false, .bool false, .bool false, .bool false, .bool false, .bool false, .bool false] 92)) w.heap.size (metA zs 0) 92 := by
    rw [metA_zero]
    exact (mbox w _ 92 _ rfl).2
  clear hA hcap
  generalize chkP zs = R at *
  generalize zs.length = n at *
  generalize good zs = GG at *
  generalize metA zs = MA at *
  generalize met zs = MT at *
  by_cases h0 : 64 < n
  · have hR := HL.out h0
    subst hR
    have d : decide ((64 : Int) < (n : Int)) = true := decide_eq_true (by omega)
    clear h0
    go_enter Try.func23, Try.ntmps23
    go_wp2
    go_ret
    exact ⟨rfl, Below.refl _ _⟩
  · have d : decide ((64 : Int) < (n : Int)) = false := decide_eq_false (by omega)
    have HN64 := Lib.hid (show n ≤ 64 by omega)
    clear h0
    have hperm := fun z w => perm_row (z := z) (n := (n : Int)) (w := w)
    go_enter Try.func23, Try.ntmps23
    go_wp2_with fail
    generalize w.alloc (.cells #[.bool false, .bool false, .bool false, .bool false, .bool false, .bool false, .bool false, .bool false, .bool false, .bool false, .bool false, .bool false, .bool false, .bool false, .bool false, .bool false, .bool false, .bool false, .bool false, .bool false, .bool false, .bool false, .bool false, .bool false, .bool false, .bool false, .bool false, .bool false, .bool false, .bool false, .bool false, .bool false, .bool false, .bool false, .bool false, .bool false, .bool false, .bool false, .bool false, .bool false, .bool false, .bool false, .bool false, .bool false, .bool false, .bool false, .bool false, .bool false, .bool false, .bool false, .bool false, .bool false, .bool false, .bool false, .bool false, .bool false, .bool false, .bool false, .bool false, .bool false, .bool false, .bool false, .bool false, .bool false] 92) = W0 at *
    go_loopw [11] (fun i wr => ∃ k : Nat, k ≤ n ∧ i = .int .i64 k ∧ Hid (GG k) ∧ Ms wr w.heap.size (MA k) 92 ∧ Below w.heap.size w wr) (fun i _ => n - (intOf i).toNat)
    case atStart => exact ⟨0, Nat.zero_le _, rfl, HG0, hM, hB⟩
    case round =>
      obtain ⟨k, hk, rfl, HG, hMk, hBk⟩ := hrel
      by_cases hlt : k < n
      · obtain ⟨o, rfl, kc⟩ := HA.out wr hBk k hlt
        cases hr : rowB (zat zs k) n
        · have hR := HN.out (k + 1) (by omega) (HGO.out k (rowB_no.1 hr))
          subst hR
          have hp := hperm (zat zs k) wr
          rw [hr] at hp
          generalize zat zs k = z at *
          clear hr hperm
          go_wp2_with fail
          refine hp.mono ?_
          rintro e w1 ⟨rfl, rfl⟩
          go_wp2
          go_ret
          exact ⟨rfl, hBk⟩
        · have hq := rowB_iff.1 hr
          have hp := hperm (zat zs k) wr
          rw [hr] at hp
          obtain ⟨r, hz⟩ : ∃ r : Nat, zat zs k = (r : Int) := ⟨(zat zs k).toNat, by omega⟩
          have hrn : r < n := by omega
          have hcell := hMk.cell (HMA.out k r (by have := HN64.out; omega))
          have hf := hMk.f r
          have HN1 := Lib.hid (HN.out (k + 1) (by omega))
          have HM1 := Lib.hid (HGM.out k r hz)
          have HS1 := Lib.hid (HGS.out k r HG.out hz hrn)
          have HE1 := Lib.hid (HMS.out k r hz)
          have hr64 : (r : Int) < 64 := by have := HN64.out; omega
          rw [hz] at hp kc
          clear hr hperm hq hz
          cases hm : MT k r
          · rw [hm] at hcell
            have HS2 := Lib.hid (HS1.out hm)
            clear hm
            go_wp2_with fail
            refine hp.mono ?_
            rintro e w1 ⟨rfl, rfl⟩
            have hk64 : (k : Int) ≤ 63 := by have := HN64.out; omega
            go_wp2
            go_roundw
            case rel => exact ⟨k + 1, by omega, by simp, HS2, by rw [← HE1.out]; exact hMk.set r _, hBk.setCell (p := ⟨w.heap.size, r, none⟩) (Nat.le_refl _) _⟩
            case measure => simp [intOf]; omega
          · rw [hm] at hcell
            have hR := HN1.out (HM1.out hm)
            subst hR
            clear hm
            go_wp2_with fail
            refine hp.mono ?_
            rintro e w1 ⟨rfl, rfl⟩
            go_wp2
            go_ret
            exact ⟨rfl, hBk⟩
      · obtain rfl : k = n := by omega
        have hR := HY.out HN64.out HG.out
        subst hR
        go_wp2
        go_ret
        exact ⟨rfl, hBk⟩
/-- the first k numbers are their places -/
def idU (n k : Nat) : List Int := (List.range n).map fun i => if i < k then (i : Int) else 0
theorem idU_length (n k : Nat) : (idU n k).length = n := by simp [idU]
theorem idU_at {n k i : Nat} (h : i < n) : zat (idU n k) i = if i < k then (i : Int) else 0 := by
  unfold idU
  show (((List.range n).map fun i => if i < k then (i : Int) else 0)[i]?).getD 0 = _
  rw [List.getElem?_map, List.getElem?_range h, Option.map_some, Option.getD_some]
theorem zat_replicate (n i : Nat) : zat (List.replicate n 0) i = 0 := by
  unfold zat
  rw [List.getElem?_replicate]
  split <;> rfl
theorem idU_zero (n : Nat) : idU n 0 = List.replicate n 0 := by
  refine zat_ext (by rw [idU_length, List.length_replicate]) fun i hi => ?_
  rw [idU_length] at hi
  rw [idU_at hi, zat_replicate, if_neg (Nat.not_lt_zero i)]
theorem idU_succ {n k : Nat} : (idU n k).set k (k : Int) = idU n (k + 1) := by
  refine zat_ext (by rw [List.length_set, idU_length, idU_length]) fun i hi => ?_
  rw [List.length_set, idU_length] at hi
  rw [zat_set, idU_length, idU_at hi, idU_at hi]
  by_cases e : i = k
  · rw [if_pos ⟨e, by omega⟩, if_pos (by omega), e]
  · rw [if_neg (fun q => e q.1)]
    by_cases e2 : i < k
    · rw [if_pos e2, if_pos (by omega)]
    · rw [if_neg e2, if_neg (by omega)]
theorem idU_all (n : Nat) : idU n n = idZ n := by
  refine zat_ext (by rw [idU_length, idZ_length]) fun i hi => ?_
  rw [idU_length] at hi
  rw [idU_at hi, idZ_at hi, if_pos hi]
def idN (n : Int) : List Int := if 0 ≤ n ∧ n ≤ 64 then idZ n.toNat else []
set_option maxRecDepth 100000 in
set_option maxHeartbeats 4000000 in
theorem perm_identity {n : Int} {w : World} : Calls Try.prog 22 #[.int .i64 n] w fun e W' => ∃ v, e = .returned v ∧ OwnK .i64 3 w.heap.size W' v (idN n) ∧ Below w.heap.size w W' := by
  by_cases h : 0 ≤ n ∧ n ≤ 64
  · obtain ⟨m, rfl⟩ : ∃ m : Nat, n = m := ⟨n.toNat, by omega⟩
    have hm : (m : Int) ≤ 64 := h.2
    unfold idN
    rw [if_pos h, Int.toNat_natCast, ← idU_all]
    have hmk := makeN_int m (by omega)
    have hown := OwnK.full .i64 3 w m (by omega)
    rw [← idU_zero] at hown
    have hb : Below w.heap.size w (w.alloc (.cells (madeCells #[.int .i64 0] m) 3)) := (Below.refl _ w).alloc (Nat.le_refl _) _
    have HS := Lib.hid (fun k => @idU_succ m k)
    have HL := Lib.hid (fun k => idU_length m k)
    generalize idU m = F at *
    have hm1 := hmk w
    clear hmk h
    go_enter Try.func22, Try.ntmps22
    go_wp2
    clear hm1
    generalize w.alloc (.cells (madeCells #[.int .i64 0] m) 3) = W0 at *
    go_loopw [15] (fun i wr => ∃ k : Nat, k ≤ m ∧ i = .int .i64 k ∧ OwnK .i64 3 w.heap.size wr (.slice (some ⟨w.heap.size, 0, none⟩) m m) (F k) ∧ Below w.heap.size w wr) (fun i _ => m - (intOf i).toNat)
    case atStart => exact ⟨0, Nat.zero_le _, rfl, hown, hb⟩
    case round =>
      obtain ⟨k, hk, rfl, ho, hB⟩ := hrel
      by_cases hlt : k < m
      · have hf := ho.frozen k
        have hcl := ho.cell (j := k) (by rw [HL.out]; exact hlt)
        have HS1 := Lib.hid (HS.out k)
        have hk64 : (k : Int) ≤ 63 := by omega
        go_wp2
        go_roundw
        case rel => exact ⟨k + 1, by omega, by simp, by rw [← HS1.out]; exact ho.set k _, hB.setCell (p := ⟨w.heap.size, k, none⟩) (Nat.le_refl _) _⟩
        case measure => simp [intOf]; omega
      · obtain rfl : k = m := by omega
        go_wp2
        go_ret
        exact ⟨_, rfl, ho, hB⟩
  · unfold idN
    rw [if_neg h]
    have hw : n < 0 ∨ (0 ≤ n ∧ 64 < n) := by omega
    clear h
    rcases hw with h | ⟨h1, h2⟩
    all_goals
      go_enter Try.func22, Try.ntmps22
      go_wp2
      go_ret
      exact ⟨_, rfl, OwnK.nil _ _ _ _, Below.refl _ _⟩
def invE (zs : List Int) : List Int := if permB zs then invZ zs zs.length else []
set_option maxRecDepth 100000 in
set_option maxHeartbeats 4000000 in
theorem perm_inverse {v : Value} {zs : List Int} {w : World} (hA : ArgK .i64 w v zs) : Calls Try.prog 20 #[v] w fun e W' => ∃ u, e = .returned (.tuple #[u, .int .i64 (chkP zs)]) ∧ OwnK .i64 3 w.heap.size W' u (invE zs) ∧ Below w.heap.size w W' := by
  have hc := perm_check hA
  obtain ⟨S, a, cap, hS, rfl, hcap, HA⟩ := hA.opened
  unfold invE chkP at *
  cases hp : permB zs
  · rw [hp] at hc
    simp only [Bool.false_eq_true, if_false] at hc ⊢
    clear hA hcap hp
    generalize zs.length = n at *
    go_enter Try.func20, Try.ntmps20
    go_wp2_with fail
    refine hc.mono ?_
    rintro e w1 ⟨rfl, b1⟩
    clear hc
    go_wp2
    go_ret2
    exact ⟨_, rfl, OwnK.nil _ _ _ _, b1⟩
  · rw [hp] at hc
    simp only [if_true] at hc ⊢
    obtain ⟨p1, p2⟩ := permB_iff.1 hp
    have hmk := makeN_int zs.length (by omega)
    have HO := Lib.hid (fun W => OwnK.full .i64 3 W zs.length (by omega))
    have HS := Lib.hid (show ∀ k, (invZ zs k).set (zat zs k).toNat (k : Int) = invZ zs (k + 1) from fun _ => rfl)
    have HL := Lib.hid (fun k => invZ_length zs k)
    have H0 := Lib.hid (show invZ zs 0 = List.replicate zs.length 0 from rfl)
    have HZ : Hid (∀ k, k < zs.length → 0 ≤ zat zs k ∧ zat zs k < zs.length) := Lib.hid (fun k hk => (p2 k hk).1)
    have hn : (zs.length : Int) ≤ 64 := by omega
    clear hA hcap hp p1 p2
    generalize invZ zs = F at *
    generalize zs.length = n at *
    go_enter Try.func20, Try.ntmps20
    go_wp2_with fail
    refine hc.mono ?_
    rintro e w1 ⟨rfl, b1⟩
    clear hc
    have hm1 := hmk w1
    have hown := HO.out w1
    rw [← H0.out] at hown
    replace hown := hown.mono b1.size
    have hb : Below w.heap.size w (w1.alloc (.cells (madeCells #[.int .i64 0] n) 3)) := b1.alloc b1.size _
    have hg := b1.size
    clear hmk HO
    go_wp2
    clear hm1
    generalize w1.alloc (.cells (madeCells #[.int .i64 0] n) 3) = W0 at *
    generalize w1.heap.size = g at *
    clear b1
    go_loopw [18] (fun i wr => ∃ k : Nat, k ≤ n ∧ i = .int .i64 k ∧ OwnK .i64 3 w.heap.size wr (.slice (some ⟨g, 0, none⟩) n n) (F k) ∧ Below w.heap.size w wr) (fun i _ => n - (intOf i).toNat)
    case atStart => exact ⟨0, Nat.zero_le _, rfl, hown, hb⟩
    case round =>
      obtain ⟨k, hk, rfl, ho, hB⟩ := hrel
      by_cases hlt : k < n
      · obtain ⟨o, rfl, kc⟩ := HA.out wr hB k hlt
        have hz := HZ.out k hlt
        obtain ⟨r, hr⟩ : ∃ r : Nat, zat zs k = (r : Int) := ⟨(zat zs k).toNat, by omega⟩
        have HS1 := Lib.hid (HS.out k)
        rw [hr, Int.toNat_natCast] at HS1
        rw [hr] at kc hz
        have hf := ho.frozen r
        have hk64 : (k : Int) ≤ 63 := by omega
        have hrn : r < n := by omega
        have hcl := ho.cell (j := r) (by rw [HL.out]; exact hrn)
        clear hz hr
        go_wp2
        go_roundw
        case rel => exact ⟨k + 1, by omega, by simp, by rw [← HS1.out]; exact ho.set r _, hB.setCell (p := ⟨g, r, none⟩) hg _⟩
        case measure => simp [intOf]; omega
      · obtain rfl : k = n := by omega
        go_wp2
        go_ret2
        exact ⟨_, rfl, ho, hB⟩
end Go.Proofs.Ytgppbimbampenaa
