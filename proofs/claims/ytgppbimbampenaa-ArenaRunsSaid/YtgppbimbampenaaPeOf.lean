/- perm: Of, with a closure that tells which swaps are of no row; slices.ContainsFunc over ints. -/
import Derived.Test.YtgppbimbampenaaPeSpec
import Derived.BigRegion
namespace Go.Proofs.Ytgppbimbampenaa
open Go.RowKit Go.Shelf
set_option maxHeartbeats 2000000 in
/-- slices.IndexFunc over ints, with a closure that tells -/
theorem indexFunc_int {k : Nat} {fs : Array Value} (P : Int → Bool) {v : Value} {xs : List Int} {w : World} (hA : ArgK .i64 w v xs) (hn : xs.length ≤ 9223372036854775806) (he : Enters k)
    (hf : ∀ (x : Int) (W : World), x ∈ xs → Below w.heap.size w W → Calls Try.prog k (#[.int .i64 x] ++ fs) W fun e W' => e = .returned (.bool (P x)) ∧ Below W.heap.size W W') :
    Calls Try.prog 90 #[v, .func (.func k) #[] fs] w fun e W' => (∃ z : Int, e = .returned (.int .i64 z) ∧ decide (0 ≤ z) = xs.any P) ∧ Below w.heap.size w W' := by
  obtain ⟨S, a, cap, hS, rfl, hcap, HA⟩ := hA.opened
  have HF := Lib.hid hf
  have HM : Hid (∀ k, k < xs.length → zat xs k ∈ xs) := Lib.hid (fun k hk => by unfold zat; rw [List.getElem?_eq_getElem hk]; exact List.getElem_mem hk)
  have HT : Hid (∀ k, k < xs.length → P (zat xs k) = true → xs.any P = true) := Lib.hid (fun k hk h => List.any_eq_true.2 ⟨_, HM.out k hk, h⟩)
  have HE : Hid ((∀ j, j < xs.length → P (zat xs j) = false) → xs.any P = false) := Lib.hid (fun h => by
    rw [List.any_eq_false]
    intro x hx
    obtain ⟨j, hj, rfl⟩ := List.getElem_of_mem hx
    have := h j hj
    unfold zat at this
    rw [List.getElem?_eq_getElem hj] at this
    simpa using this)
  have HEN := Lib.hid he
  clear hf hA hcap he
  generalize hm : xs.length = m at *
  clear hm
  go_enter Try.func90, Try.ntmps90
  go_wp2
  go_loopw [8] (fun i wr => ∃ q : Nat, q ≤ m ∧ i = .int .i64 q ∧ Hid (∀ j, j < q → P (zat xs j) = false) ∧ Below w.heap.size w wr) (fun i _ => m - (intOf i).toNat)
  case atStart => exact ⟨0, Nat.zero_le _, rfl, Lib.hid (fun j h => absurd h (by omega)), Below.refl _ _⟩
  case round =>
    obtain ⟨q, hq, rfl, HJ, hB⟩ := hrel
    by_cases hlt : q < m
    · obtain ⟨oa, rfl, ka⟩ := HA.out wr hB q hlt
      have hc := HF.out (zat xs q) wr (HM.out q hlt) hB
      have hen := HEN.out (#[.int .i64 (zat xs q)] ++ fs) wr
      cases hp : P (zat xs q)
      · rw [hp] at hc
        have HP := Lib.hid hp
        clear hp
        go_wp2_with fail
        refine hc.mono ?_
        rintro e w2 ⟨rfl, b2⟩
        clear hc
        replace hB := below_both hB b2
        go_wp2
        go_roundw
        case rel => exact ⟨q + 1, by omega, by simp, Lib.hid (fun j hj => by rcases Nat.lt_or_ge j q with h | h; exact HJ.out j h; obtain rfl : j = q := by omega
                                                                             exact HP.out), hB⟩
        case measure => simp [intOf]; omega
      · rw [hp] at hc
        have HP : Hid (xs.any P = true) := Lib.hid (HT.out q hlt hp)
        clear hp
        go_wp2_with fail
        refine hc.mono ?_
        rintro e w2 ⟨rfl, b2⟩
        clear hc
        replace hB := below_both hB b2
        go_wp2
        go_ret
        exact ⟨⟨q, rfl, by rw [HP.out]; simp⟩, hB⟩
    · obtain rfl : q = m := by omega
      clear hlt
      go_wp2
      go_ret
      exact ⟨⟨-1, rfl, by rw [HE.out HJ.out]; rfl⟩, hB⟩
theorem containsFunc_int {k : Nat} {fs : Array Value} (P : Int → Bool) {v : Value} {xs : List Int} {w : World} (hA : ArgK .i64 w v xs) (hn : xs.length ≤ 9223372036854775806) (he : Enters k)
    (hf : ∀ (x : Int) (W : World), x ∈ xs → Below w.heap.size w W → Calls Try.prog k (#[.int .i64 x] ++ fs) W fun e W' => e = .returned (.bool (P x)) ∧ Below W.heap.size W W') :
    Calls Try.prog 65 #[v, .func (.func k) #[] fs] w fun e W' => e = .returned (.bool (xs.any P)) ∧ Below w.heap.size w W' := by
  have h := indexFunc_int P hA hn he hf
  generalize xs.any P = b at h ⊢
  clear hf hA he
  go_enter Try.func65, Try.ntmps65
  go_wp2_with fail
  refine h.mono ?_
  rintro e w1 ⟨⟨z, rfl, hz⟩, hb⟩
  clear h
  go_wp2
  go_ret
  exact ⟨rfl, hb⟩


theorem perm_of1 {n z : Int} {b : Nat} {W : World} (hc : W.cell? ⟨b, 0, none⟩ = some (.int .i64 n)) : Calls Try.prog 64 (#[.int .i64 z] ++ #[.pointer (some ⟨b, 0, none⟩)]) W fun e W' => e = .returned (.bool (!rowB z n)) ∧ Below W.heap.size W W' := by
  show Calls Try.prog 64 #[.int .i64 z, .pointer (some ⟨b, 0, none⟩)] W _
  have h := fun w => perm_row (z := z) (n := n) (w := w)
  generalize rowB z n = r at *
  go_enter Try.func64, Try.ntmps64
  go_wp2_with fail
  refine (h _).mono ?_
  rintro e w1 ⟨rfl, rfl⟩
  clear h
  go_wp2
  go_ret
  exact ⟨rfl, Below.refl _ _⟩
theorem argk_new1 (k : IntKind) (zs : List Int) (w : World) (t : TypeId) : ArgK k (w.alloc (.cells (valsK k zs).toArray t)) (.slice (some ⟨w.heap.size, 0, none⟩) zs.length zs.length) zs := by
  refine ⟨w.heap.size, by rw [World.size_alloc]; omega, .inr ⟨0, zs.length, rfl, Nat.le_refl _, fun j hj => ?_⟩⟩
  rw [Nat.zero_add, World.cell?_alloc_new, List.getElem?_toArray, valsK_get hj]
/-- the rows behind the first k swaps -/
def swZ (n : Nat) (sw : List Int) : Nat → List Int
  | 0 => idZ n
  | k + 1 => swpZ (swZ n sw k) k (zat sw k).toNat
theorem swZ_length (n : Nat) (sw : List Int) (k : Nat) : (swZ n sw k).length = n := by
  induction k with
  | zero => exact idZ_length n
  | succ k ih => show (swpZ _ _ _).length = _; rw [swpZ_length, ih]
def okS (n : Int) (sw : List Int) : Bool := decide (0 ≤ n) && (decide (n ≤ 64) && (decide ((sw.length : Int) ≤ n) && !(sw.any fun z => !rowB z n)))
theorem okS_iff {n : Int} {sw : List Int} : okS n sw = true ↔ 0 ≤ n ∧ n ≤ 64 ∧ (sw.length : Int) ≤ n ∧ ∀ k, k < sw.length → 0 ≤ zat sw k ∧ zat sw k < n := by
  unfold okS
  simp only [Bool.and_eq_true, decide_eq_true_eq]
  have : (!(sw.any fun z => !rowB z n)) = true ↔ ∀ k, k < sw.length → 0 ≤ zat sw k ∧ zat sw k < n := by
    rw [Bool.not_eq_true', List.any_eq_false]
    constructor
    · intro h k hk
      have := h (zat sw k) (by unfold zat; rw [List.getElem?_eq_getElem hk]; exact List.getElem_mem hk)
      rw [Bool.not_eq_true', Bool.not_eq_false] at this
      exact rowB_iff.1 this
    · intro h z hz
      obtain ⟨k, hk, rfl⟩ := List.getElem_of_mem hz
      have := h k hk
      unfold zat at this
      rw [List.getElem?_eq_getElem hk, Option.getD_some] at this
      rw [Bool.not_eq_true', Bool.not_eq_false]
      exact rowB_iff.2 this
  rw [this]
theorem swZ_perm {n : Nat} {sw : List Int} (h : okS n sw = true) (k : Nat) (hk : k ≤ sw.length) : permB (swZ n sw k) = true := by
  obtain ⟨h1, h2, h3, h4⟩ := okS_iff.1 h
  induction k with
  | zero => exact idZ_perm (by omega)
  | succ k ih =>
    have := h4 k (by omega)
    exact swpZ_perm (by rw [swZ_length]; omega) (by rw [swZ_length]; omega) (ih (by omega))
/-- how many of the first k swaps change two rows: is it odd? -/
def oddS (sw : List Int) : Nat → Bool
  | 0 => false
  | k + 1 => oddS sw k != (zat sw k != (k : Int))
theorem swZ_sign {n : Nat} {sw : List Int} (h : okS n sw = true) (k : Nat) (hk : k ≤ sw.length) : sgZ (swZ n sw k) = oddS sw k := by
  obtain ⟨h1, h2, h3, h4⟩ := okS_iff.1 h
  induction k with
  | zero => exact sgZ_id n
  | succ k ih =>
    have h5 := h4 k (by omega)
    have hp := (permB_iff.1 (swZ_perm h k (by omega))).2
    show sgZ (swpZ _ _ _) = (oddS sw k != _)
    rw [sgZ_swap (by rw [swZ_length]; omega) (by rw [swZ_length]; omega) hp, ih (by omega)]
    have e : decide (k ≠ (zat sw k).toNat) = (zat sw k != (k : Int)) := by
      by_cases q : zat sw k = (k : Int)
      · rw [decide_eq_false (by omega), q]; simp
      · rw [decide_eq_true (by omega)]; exact (bne_iff_ne.2 q).symm
    rw [e]
    cases oddS sw k <;> cases (zat sw k != (k : Int)) <;> rfl
set_option maxRecDepth 100000 in
set_option maxHeartbeats 4000000 in
theorem perm_of {v : Value} {sw : List Int} {n : Int} {w : World} (hA : ArgK .i64 w v sw) (hl : sw.length ≤ 17592186044416) : Calls Try.prog 25 #[.int .i64 n, v] w fun e W' => ∃ u, e = .returned (.tuple #[u, .int .i64 (if okS n sw then 0 else 4)]) ∧ OwnK .i64 3 w.heap.size W' u (if okS n sw then swZ n.toNat sw sw.length else []) ∧ Below w.heap.size w W' := by
  obtain ⟨bx, G⟩ := mbox w #[.int .i64 n] 3 _ rfl
  have c0 := G.cell (i := 0) rfl
  have hcf := containsFunc_int (k := 64) (fs := #[.pointer (some ⟨w.heap.size, 0, none⟩)]) (fun z => !rowB z n) (hA.behind bx) (by omega) (enters_of Try.func64 (by kernel_rfl) rfl) (fun x W _ hB => perm_of1 ((G.behind hB).cell (i := 0) rfl))
  have HOK := Lib.hid (@okS_iff n sw)
  have HDF := Lib.hid (show okS n sw = (decide (0 ≤ n) && (decide (n ≤ 64) && (decide ((sw.length : Int) ≤ n) && !(sw.any fun z => !rowB z n)))) from rfl)
  obtain ⟨S, a, cap, hS, rfl, hcap, HA⟩ := hA.opened
  clear hA hcap
  generalize (sw.any fun z => !rowB z n) = any at *
  cases hok : okS n sw
  · have hways : n < 0 ∨ (0 ≤ n ∧ 64 < n) ∨ (0 ≤ n ∧ n ≤ 64 ∧ n < (sw.length : Int)) ∨ (0 ≤ n ∧ n ≤ 64 ∧ (sw.length : Int) ≤ n ∧ any = true) := by
      have h := HDF.out
      rw [hok] at h
      by_cases a1 : 0 ≤ n
      · by_cases a2 : n ≤ 64
        · by_cases a3 : (sw.length : Int) ≤ n
          · rw [decide_eq_true a1, decide_eq_true a2, decide_eq_true a3] at h
            cases any
            · simp at h
            · exact .inr (.inr (.inr ⟨a1, a2, a3, rfl⟩))
          · exact .inr (.inr (.inl ⟨a1, a2, by omega⟩))
        · exact .inr (.inl ⟨a1, by omega⟩)
      · exact .inl (by omega)
    simp only [Bool.false_eq_true, if_false]
    clear HOK HDF hok
    generalize sw.length = m at *
    rcases hways with h1 | ⟨h1, h2⟩ | ⟨h1, h2, h3⟩ | ⟨h1, h2, h3, rfl⟩
    · go_enter Try.func25, Try.ntmps25
      go_wp2
      go_ret2
      exact ⟨_, rfl, OwnK.nil _ _ _ _, bx⟩
    · go_enter Try.func25, Try.ntmps25
      go_wp2
      go_ret2
      exact ⟨_, rfl, OwnK.nil _ _ _ _, bx⟩
    · go_enter Try.func25, Try.ntmps25
      go_wp2
      go_ret2
      exact ⟨_, rfl, OwnK.nil _ _ _ _, bx⟩
    · go_enter Try.func25, Try.ntmps25
      go_wp2_with fail
      refine hcf.mono ?_
      rintro e w1 ⟨rfl, b1⟩
      go_wp2
      go_ret2
      exact ⟨_, rfl, OwnK.nil _ _ _ _, below_both bx b1⟩
  · obtain ⟨h1, h2, h3, h4⟩ := HOK.out.1 hok
    have hany : any = false := by
      have h := HDF.out
      rw [hok, decide_eq_true h1, decide_eq_true h2, decide_eq_true h3] at h
      cases any
      · rfl
      · simp at h
    subst hany
    simp only [if_true]
    obtain ⟨q, rfl⟩ : ∃ q : Nat, n = q := ⟨n.toNat, by omega⟩
    rw [Int.toNat_natCast]
    have hid := fun w => perm_identity (n := (q : Int)) (w := w)
    have e1 : idN (q : Int) = swZ q sw 0 := by unfold idN; rw [if_pos ⟨h1, h2⟩, Int.toNat_natCast]; rfl
    rw [e1] at hid
    have HZ := Lib.hid h4
    have HL := Lib.hid (fun k => swZ_length q sw k)
    have HS := Lib.hid (show ∀ k, ((swZ q sw k).set k (zat (swZ q sw k) (zat sw k).toNat)).set (zat sw k).toNat (zat (swZ q sw k) k) = swZ q sw (k + 1) from fun _ => rfl)
    clear e1 h4 HOK HDF hok
    generalize swZ q sw = F at *
    generalize sw.length = m at *
    go_enter Try.func25, Try.ntmps25
    go_wp2_with fail
    generalize w.alloc (.cells #[.int .i64 (q : Int)] 3) = W0 at *
    refine hcf.mono ?_
    rintro e w1 ⟨rfl, b1⟩
    replace bx := below_both bx b1
    replace G := G.behind b1
    have c0 := G.cell (i := 0) rfl
    clear hcf b1
    go_wp2_with fail
    refine (hid _).mono ?_
    rintro e w2 ⟨u, rfl, ho, b2⟩
    replace ho := ho.mono bx.size
    replace bx := below_both bx b2
    clear hid b2
    obtain ⟨u1, u2, hu⟩ := ho.len
    rw [HL.out] at hu
    subst hu
    by_cases hq0 : q = 0
    · subst hq0
      obtain rfl : m = 0 := by omega
      go_wp2
      go_loopw [32] (fun i wr => i = .int .i64 0 ∧ wr = w2) (fun i _ => 0)
      case atStart => exact ⟨rfl, rfl⟩
      case round =>
        obtain ⟨rfl, hw⟩ := hrel
        cases hw
        go_wp2
        go_ret2
        exact ⟨_, rfl, ho, bx⟩
    · obtain ⟨g, cap2, hv, hg, hgl⟩ := ho.form (by rw [HL.out]; omega)
      rw [HL.out] at hv
      simp only [Value.slice.injEq] at hv
      obtain ⟨rfl, _, rfl⟩ := hv
      go_wp2
      go_loopw [32] (fun i wr => ∃ k : Nat, k ≤ m ∧ i = .int .i64 k ∧ OwnK .i64 3 w.heap.size wr (.slice (some ⟨g, 0, none⟩) q u2) (F k) ∧ Below w.heap.size w wr) (fun i _ => m - (intOf i).toNat)
      case atStart => exact ⟨0, Nat.zero_le _, rfl, ho, bx⟩
      case round =>
        obtain ⟨k, hk, rfl, ho, hB⟩ := hrel
        by_cases hlt : k < m
        · obtain ⟨o, rfl, kc⟩ := HA.out wr hB k hlt
          have hz := HZ.out k hlt
          obtain ⟨r, hr⟩ : ∃ r : Nat, zat sw k = (r : Int) := ⟨(zat sw k).toNat, by omega⟩
          have HS1 := Lib.hid (HS.out k)
          rw [hr, Int.toNat_natCast] at HS1
          rw [hr] at kc hz
          have hrq : r < q := by omega
          have hkq : k < q := by omega
          have f1 := ho.frozen r
          have f2 := ho.frozen k
          have d1 := ho.cell (j := r) (by rw [HL.out]; exact hrq)
          have d2 := ho.cell (j := k) (by rw [HL.out]; exact hkq)
          have hk64 : (k : Int) ≤ 63 := by omega
          have ho1 := ho.set k (zat (F k) r)
          have e1 := ho1.cell (j := r) (by rw [List.length_set, HL.out]; exact hrq)
          have e2 := ho1.frozen r
          have HN := Lib.hid ho1
          have HB2 := Lib.hid ((hB.setCell (p := ⟨g, k, none⟩) hg (.int .i64 (zat (F k) r))).setCell (p := ⟨g, r, none⟩) hg (.int .i64 (zat (F k) k)))
          have HO2 := Lib.hid (ho1.set r (zat (F k) k))
          rw [HS1.out] at HO2
          clear hz hr ho1 HS1 HN
          by_cases hkr : k = r
          · subst hkr
            go_wp2
            go_region
            go_wp2
            go_roundw
            case rel => exact ⟨k + 1, by omega, by simp, HO2.out.drew, HB2.out.drew⟩
            case measure => simp [intOf]; omega
          · go_wp2
            go_region
            go_wp2
            go_roundw
            case rel => exact ⟨k + 1, by omega, by simp, HO2.out.drew, HB2.out.drew⟩
            case measure => simp [intOf]; omega
        · obtain rfl : k = m := by omega
          go_wp2
          go_ret2
          exact ⟨_, rfl, ho, hB⟩
end Go.Proofs.Ytgppbimbampenaa
