/- vec.Largest; vernierlaw19.alive. -/
import Derived.Test.YtaefalmabphadabVeSpec
namespace Go.Proofs.Ytaefalmabphadab
open Go.RowKit Go.Shelf
theorem bel_new' (W : World) (o : Obj) : Below W.heap.size W (W.alloc o) := (Below.refl _ _).alloc (Nat.le_refl _) o
theorem mag_lt (a : Nat) : mag a < 9223372036854775808 := Nat.mod_lt _ (by decide)
theorem mag_mag (a : Nat) : mag (mag a) = mag a := Nat.mod_eq_of_lt (mag_lt a)
theorem key_mag (a : Nat) : key (mag a) = (mag a : Int) := by
  have h := mag_lt a
  rcases key_of (a := mag a) (by omega) with ⟨h1, h2, _⟩ | ⟨_, _, h3⟩
  · rw [mag_mag] at h2; omega
  · rw [h3, mag_mag]
/-- numbers without signs, held against each other -/
theorem kless_mag {a b : Nat} (ha : isNum a = true) (hb : isNum b = true) : kless (mag a) (mag b) = decide (mag a < mag b) := by
  have h1 : isNum (mag a) = true := by unfold isNum at *; rw [mag_mag]; exact ha
  have h2 : isNum (mag b) = true := by unfold isNum at *; rw [mag_mag]; exact hb
  unfold kless
  rw [h1, h2, key_mag, key_mag]
  simp
theorem larV_num (xs : List Nat) (k : Nat) : ∃ a, isNum a = true ∧ (larV xs k).2 = mag a := by
  induction k with
  | zero => exact ⟨0, by decide, rfl⟩
  | succ k ih =>
    unfold larV
    split
    · exact ih
    · rename_i h
      split
      · exact ⟨lim xs k, (isNum_cls _).2 h, rfl⟩
      · exact ih
set_option maxRecDepth 100000 in
set_option maxHeartbeats 8000000 in
theorem vec_largest {v : Value} {xs : List Nat} {w : World} (hA : Arg w v xs) (hl : Low 18446744073709551616 xs) (hn : xs.length ≤ 17592186044416) :
    Calls Try.prog 44 #[v] w fun e W' => e = .returned (.tuple #[.int .i64 (larV xs xs.length).1, .int .u64 ((larV xs xs.length).2 : Int)]) ∧ Below w.heap.size w W' := by
  have hz := fun w => pzero1 false w
  rw [show sgn false = 0 from rfl] at hz
  have HXL := Lib.hid (fun k => lim_lt hl (by decide : 0 < 18446744073709551616) k)
  have HRG := Lib.hid (larV_range xs)
  have HNU := Lib.hid (larV_num xs)
  have HST := Lib.hid (fun k => show larV xs (k + 1) = (if cls (lim xs k) = 3 then larV xs k else if (larV xs k).1 = -1 ∨ (larV xs k).2 < lim xs k % 9223372036854775808 then ((k : Int), lim xs k % 9223372036854775808) else larV xs k) from rfl)
  have HL0 := Lib.hid (show larV xs 0 = (-1, 0) from rfl)
  obtain ⟨S, a, cap, hS, rfl, hcap, HA⟩ := hA.opened
  clear hA hl hcap
  generalize larV xs = F at *
  generalize xs.length = m at *
  go_enter Try.func44, Try.ntmps44
  go_wp2_with fail
  refine (hz _).mono ?_
  rintro e w1 ⟨rfl, rfl⟩
  clear hz
  go_wp2
  go_loopw [4, 5, 12] (fun p f i wr => ∃ (k n : Nat) (z : Int), k ≤ m ∧ i = .int .i64 k ∧ p = .int .i64 z ∧ f = .int .u64 (n : Int) ∧ Hid (F k = (z, n)) ∧ Below w.heap.size w wr) (fun _ _ i _ => m - (intOf i).toNat)
  case atStart => exact ⟨0, 0, -1, Nat.zero_le _, rfl, rfl, rfl, Lib.hid HL0.out, Below.refl _ _⟩
  case round =>
    obtain ⟨k, n, z, hk, rfl, rfl, rfl, HF, hB⟩ := hrel
    by_cases hlt : k < m
    · obtain ⟨oa, rfl, ka⟩ := HA.out wr hB k hlt
      have hrg := HRG.out k
      have hnu := HNU.out k
      have hst := HST.out k
      rw [HF.out] at hrg hnu hst
      dsimp only at hrg hnu hst
      have h1 := HXL.out k
      have hcl := fun w => pclass1 (a := lim xs k) (w := w) (by omega)
      have hab := fun w => fcmp_abs (a := lim xs k) (w := w) (by omega)
      have hn64 : (n : Int) ≤ 18446744073709551615 := by omega
      generalize lim xs k = x at *
      by_cases hc : cls x = 3
      · have d : ((cls x : Int) == 3) = true := by rw [hc]; rfl
        rw [if_pos hc] at hst
        have HS := Lib.hid hst
        clear hst hc hnu hab h1
        generalize cls x = cx at *
        go_wp2_with fail
        refine (hcl _).mono ?_
        rintro e w2 ⟨rfl, rfl⟩
        clear hcl
        go_wp2
        go_roundw
        case rel => exact ⟨k + 1, n, z, by omega, by simp, rfl, rfl, Lib.hid HS.out, hB⟩
        case measure => simp [intOf]; omega
      · have d : ((cls x : Int) == 3) = false := beq_eq_false_iff_ne.2 (by omega)
        have hisn := (isNum_cls x).2 hc
        have hax : absB x = mag x := by unfold absB; rw [if_pos hisn]
        rw [hax] at hab
        rw [if_neg hc] at hst
        have hst2 : F (k + 1) = if z = -1 ∨ n < mag x then ((k : Int), mag x) else (z, n) := hst
        obtain ⟨y, hy, hny⟩ := hnu
        have hmx := mag_lt x
        have hls := fun w => fcmp_less (a := n) (b := mag x) (w := w) hn64 (by omega)
        rw [hny, kless_mag hy hisn, ← hny] at hls
        clear hst hc hisn hax hy hny h1
        generalize cls x = cx at *
        generalize mag x = s at *
        have HC := Lib.hid hcl
        have HAB := Lib.hid hab
        have HST2 := Lib.hid hst2
        have HLS := Lib.hid hls
        clear hcl hab hst2 hls hmx
        by_cases hz1 : z < 0
        · have HF1 : Hid (F (k + 1) = ((k : Int), s)) := Lib.hid (by rw [HST2.out, if_pos (.inl (by omega))])
          go_wp2_with fail
          refine (HC.out _).mono ?_
          rintro e w2 ⟨rfl, rfl⟩
          go_wp2_with fail
          refine (HAB.out _).mono ?_
          rintro e w3 ⟨rfl, b3⟩
          go_wp2
          go_roundw
          case rel => exact ⟨k + 1, s, k, by omega, by simp, rfl, rfl, Lib.hid HF1.out, below_both hB b3⟩
          case measure => simp [intOf]; omega
        · by_cases hns : n < s
          · have HF1 : Hid (F (k + 1) = ((k : Int), s)) := Lib.hid (by rw [HST2.out, if_pos (.inr hns)])
            rw [decide_eq_true hns] at HLS
            clear hns
            go_wp2_with fail
            refine (HC.out _).mono ?_
            rintro e w2 ⟨rfl, rfl⟩
            go_wp2_with fail
            refine (HAB.out _).mono ?_
            rintro e w3 ⟨rfl, b3⟩
            go_wp2_with fail
            refine (HLS.out _).mono ?_
            rintro e w4 ⟨rfl, b4⟩
            go_wp2
            go_roundw
            case rel => exact ⟨k + 1, s, k, by omega, by simp, rfl, rfl, Lib.hid HF1.out, below_both hB (below_both b3 b4)⟩
            case measure => simp [intOf]; omega
          · have HF1 : Hid (F (k + 1) = (z, n)) := Lib.hid (by rw [HST2.out, if_neg (by omega)])
            rw [decide_eq_false hns] at HLS
            clear hns
            go_wp2_with fail
            refine (HC.out _).mono ?_
            rintro e w2 ⟨rfl, rfl⟩
            go_wp2_with fail
            refine (HAB.out _).mono ?_
            rintro e w3 ⟨rfl, b3⟩
            go_wp2_with fail
            refine (HLS.out _).mono ?_
            rintro e w4 ⟨rfl, b4⟩
            go_wp2
            go_roundw
            case rel => exact ⟨k + 1, n, z, by omega, by simp, rfl, rfl, Lib.hid HF1.out, below_both hB (below_both b3 b4)⟩
            case measure => simp [intOf]; omega
    · obtain rfl : k = m := by omega
      clear hlt
      go_wp2
      go_ret2
      exact ⟨by rw [HF.out]; rfl, hB⟩
theorem dot_alive : dotE [4607182418800017408, 4611686018427387904] [4613937818241073152, 4616189618054758400] = 0 ∧ dotR [4607182418800017408, 4611686018427387904] [4613937818241073152, 4616189618054758400] = 4622382067542392832 := by
  constructor
  · decide +kernel
  · decide +kernel
theorem l_alive19 (w : World) : Calls Try.prog 31 #[] w fun e W' => e = .returned (.bool true) ∧ Below w.heap.size w W' := by
  have b1 := bel_new' w (.cells #[.int .u64 4607182418800017408, .int .u64 4611686018427387904] 42)
  have A1 : Arg (w.alloc (.cells #[.int .u64 4607182418800017408, .int .u64 4611686018427387904] 42)) (.slice (some ⟨w.heap.size, 0, none⟩) 2 2) [4607182418800017408, 4611686018427387904] := ⟨w.heap.size, by rw [World.size_alloc]; omega, (Row.new w .u64 42 [4607182418800017408, 4611686018427387904]).rd 2 (by simp)⟩
  have b2 := bel_new' (w.alloc (.cells #[.int .u64 4607182418800017408, .int .u64 4611686018427387904] 42)) (.cells #[.int .u64 4613937818241073152, .int .u64 4616189618054758400] 42)
  have A2 : Arg ((w.alloc (.cells #[.int .u64 4607182418800017408, .int .u64 4611686018427387904] 42)).alloc (.cells #[.int .u64 4613937818241073152, .int .u64 4616189618054758400] 42)) (.slice (some ⟨w.heap.size + 1, 0, none⟩) 2 2) [4613937818241073152, 4616189618054758400] := ⟨w.heap.size + 1, by rw [World.size_alloc, World.size_alloc]; omega, by
    have := (Row.new (w.alloc (.cells #[.int .u64 4607182418800017408, .int .u64 4611686018427387904] 42)) .u64 42 [4613937818241073152, 4616189618054758400]).rd 2 (by simp)
    rw [World.size_alloc] at this
    exact this⟩
  have h := vec_dot (A1.behind b2) A2 (by intro x hx; simp at hx; omega) (by intro x hx; simp at hx; omega) (by simp) (by simp)
  rw [dot_alive.1, dot_alive.2] at h
  have bb := below_both b1 b2
  clear A1 A2 b1 b2
  go_enter Try.func31, Try.ntmps31
  go_wp2_with fail
  refine Calls.mono h ?_
  rintro e w1 ⟨rfl, b1⟩
  clear h
  go_wp2
  go_ret
  exact ⟨rfl, below_both bb b1⟩
/-- the greatest one is so -/
theorem larV_best (xs : List Nat) (k : Nat) : (∀ j, j < k → cls (lim xs j) ≠ 3 → 0 ≤ (larV xs k).1 ∧ mag (lim xs j) ≤ (larV xs k).2 ∧ (mag (lim xs j) = (larV xs k).2 → (larV xs k).1 ≤ (j : Int))) ∧
    ((larV xs k).1 = -1 → (larV xs k).2 = 0) ∧ ((larV xs k).1 ≠ -1 → ∃ a : Nat, (larV xs k).1 = (a : Int) ∧ a < k ∧ mag (lim xs a) = (larV xs k).2 ∧ cls (lim xs a) ≠ 3) := by
  induction k with
  | zero => exact ⟨fun j hj => absurd hj (by omega), fun _ => rfl, fun h => absurd rfl h⟩
  | succ k ih =>
    obtain ⟨i1, i2, i3⟩ := ih
    have hr := larV_range xs k
    have hm : lim xs k % 9223372036854775808 = mag (lim xs k) := rfl
    rw [larV, hm]
    generalize larV xs k = p at *
    obtain ⟨z, n⟩ := p
    dsimp only at i1 i2 i3 hr ⊢
    by_cases hc : cls (lim xs k) = 3
    · rw [if_pos hc]
      dsimp only
      refine ⟨fun j hj hn => i1 j (by rcases Nat.lt_or_ge j k with h | h; exact h; obtain rfl : j = k := by omega
                                      exact absurd hc hn) hn, i2, fun h => ?_⟩
      obtain ⟨a, a1, a2, a3⟩ := i3 h
      exact ⟨a, a1, by omega, a3⟩
    · rw [if_neg hc]
      by_cases ht : z = -1 ∨ n < mag (lim xs k)
      · rw [if_pos ht]
        dsimp only
        refine ⟨fun j hj hn => ?_, fun h => by omega, fun _ => ⟨k, rfl, by omega, rfl, hc⟩⟩
        rcases Nat.lt_or_ge j k with h | h
        · obtain ⟨q1, q2, q3⟩ := i1 j h hn
          have ht2 : n < mag (lim xs k) := by rcases ht with ht | ht; omega; exact ht
          exact ⟨by omega, by omega, fun e => by omega⟩
        · obtain rfl : j = k := by omega
          exact ⟨by omega, Nat.le_refl _, fun _ => Int.le_refl _⟩
      · rw [if_neg ht]
        dsimp only
        refine ⟨fun j hj hn => ?_, i2, fun h => ?_⟩
        · rcases Nat.lt_or_ge j k with h | h
          · exact i1 j h hn
          · obtain rfl : j = k := by omega
            exact ⟨by omega, by omega, fun e => by omega⟩
        · obtain ⟨a, a1, a2, a3⟩ := i3 h
          exact ⟨a, a1, by omega, a3⟩
set_option maxRecDepth 100000 in
set_option maxHeartbeats 8000000 in
theorem vecLargest_calls {v : Value} {xs : List Nat} {w : World} (hA : Arg w v xs) (hl : Low 18446744073709551616 xs) (hn : xs.length ≤ 17592186044416) :
    Calls Try.prog 8 #[v] w fun e W' => e = .returned (.bool true) ∧ Below w.heap.size w W' := by
  have hal := l_alive19 w
  have hlg := fun (W : World) (h : Below w.heap.size w W) => vec_largest (hA.behind h) hl hn
  obtain ⟨hb1, hb2, hb3⟩ := larV_best xs xs.length
  have hrg := larV_range xs xs.length
  have HXL := Lib.hid (fun k => lim_lt hl (by decide : 0 < 18446744073709551616) k)
  have HLG := Lib.hid hlg
  obtain ⟨S, a, cap, hS, rfl, hcap, HA⟩ := hA.opened
  clear hA hl hcap hlg
  generalize larV xs xs.length = p at *
  obtain ⟨z, n⟩ := p
  dsimp only at hb1 hb2 hb3 hrg HLG
  have HB1 := Lib.hid hb1
  have HB2 := Lib.hid hb2
  have HB3 := Lib.hid hb3
  clear hb1 hb2 hb3
  generalize xs.length = m at *
  go_enter Try.func8, Try.ntmps8
  go_wp2_with fail
  refine hal.mono ?_
  rintro e w1 ⟨rfl, b1⟩
  clear hal
  go_wp2_with fail
  refine (HLG.out _ b1).mono ?_
  rintro e w2 ⟨rfl, b2⟩
  have B2 := below_both b1 b2
  go_wp2
  go_loopw [5, 6] (fun c i wr => ∃ k q : Nat, k ≤ m ∧ q ≤ k ∧ i = .int .i64 k ∧ c = .int .i64 q ∧ Hid (q = 0 ↔ ∀ j, j < k → cls (lim xs j) = 3) ∧ Below w.heap.size w wr) (fun _ i _ => m - (intOf i).toNat)
  case atStart => exact ⟨0, 0, Nat.zero_le _, Nat.le_refl _, rfl, rfl, Lib.hid ⟨fun _ j hj => absurd hj (by omega), fun _ => rfl⟩, B2⟩
  case round =>
    obtain ⟨k, q, hk, hqk, rfl, rfl, HQ, hB⟩ := hrel
    by_cases hlt : k < m
    · obtain ⟨oa, rfl, ka⟩ := HA.out wr hB k hlt
      have h1 := HXL.out k
      have hcl := fun w => class6 (a := lim xs k) (W := w) (by omega)
      have hbk := HB1.out k hlt
      by_cases hc : cls (lim xs k) = 3
      · have HQ2 : Hid (q = 0 ↔ ∀ j, j < k + 1 → cls (lim xs j) = 3) := Lib.hid ⟨fun h j hj => by rcases Nat.lt_or_ge j k with h' | h'; exact HQ.out.1 h j h'; obtain rfl : j = k := by omega
                                                                                                  exact hc, fun h => HQ.out.2 fun j hj => h j (by omega)⟩
        have d : ((cls (lim xs k) : Int) == 3) = true := by rw [hc]; rfl
        clear hc h1 hbk
        generalize lim xs k = x at ka hcl d
        generalize cls x = cx at *
        go_wp2_with fail
        refine (hcl _).mono ?_
        rintro e w3 ⟨rfl, rfl⟩
        clear hcl
        go_wp2
        go_roundw
        case rel => exact ⟨k + 1, q, by omega, by omega, by simp, rfl, Lib.hid HQ2.out, hB⟩
        case measure => simp [intOf]; omega
      · have HQ2 : Hid (q + 1 = 0 ↔ ∀ j, j < k + 1 → cls (lim xs j) = 3) := Lib.hid ⟨fun h => absurd h (by omega), fun h => absurd (h k (by omega)) hc⟩
        have d : ((cls (lim xs k) : Int) == 3) = false := beq_eq_false_iff_ne.2 (by omega)
        obtain ⟨e1, e2, e3⟩ := hbk hc
        have hnt := not_top (a := lim xs k) h1
        have hmx : ((lim xs k % 9223372036854775808 : Nat) : Int) = (mag (lim xs k) : Int) := rfl
        rw [hmx] at hnt
        have hkw : (k : Int) + 1 ≤ 9223372036854775807 := by omega
        clear hc h1 hbk hmx
        generalize lim xs k = x at ka hcl d hnt e2 e3
        generalize cls x = cx at *
        generalize mag x = s at *
        have d1 : decide ((n : Int) < (s : Int)) = false := decide_eq_false (by omega)
        have d1' : decide (n < s) = false := decide_eq_false (by omega)
        by_cases hsn : s = n
        · have d2 : ((s : Int) == (n : Int)) = true := by rw [hsn]; simp
          have d3 : decide ((k : Int) < z) = false := decide_eq_false (by have := e3 hsn; omega)
          clear e3 e2 hsn
          go_wp2_with fail
          refine (hcl _).mono ?_
          rintro e w3 ⟨rfl, rfl⟩
          clear hcl
          go_wp2
          go_roundw
          case rel => exact ⟨k + 1, q + 1, by omega, by omega, by simp, by simp, Lib.hid HQ2.out, hB⟩
          case measure => simp [intOf]; omega
        · have d2 : ((s : Int) == (n : Int)) = false := beq_eq_false_iff_ne.2 (by omega)
          clear e3 e2 hsn
          go_wp2_with fail
          refine (hcl _).mono ?_
          rintro e w3 ⟨rfl, rfl⟩
          clear hcl
          go_wp2
          go_roundw
          case rel => exact ⟨k + 1, q + 1, by omega, by omega, by simp, by simp, Lib.hid HQ2.out, hB⟩
          case measure => simp [intOf]; omega
    · obtain rfl : k = m := by omega
      clear hlt
      by_cases hq0 : q = 0
      · have hz1 : z = -1 := by
          rcases Classical.em (z = -1) with h | h
          · exact h
          · obtain ⟨j, _, hj, _, hj2⟩ := HB3.out h
            exact absurd (HQ.out.1 hq0 j hj) hj2
        have hn0 := HB2.out hz1
        subst hz1 hq0 hn0
        go_wp2
        go_ret
        exact ⟨rfl, hB⟩
      · have hz1 : z ≠ -1 := fun h => hq0 (HQ.out.2 fun j hj => Classical.byContradiction fun hc => by have := (HB1.out j hj hc).1; omega)
        obtain ⟨j, rfl, hj, hjm, _⟩ := HB3.out hz1
        have d0 : ((q : Int) == 0) = false := beq_eq_false_iff_ne.2 (by omega)
        obtain ⟨oa, rfl, ka⟩ := HA.out wr hB j hj
        have hnt := not_top (a := lim xs j) (HXL.out j)
        have hmx : ((lim xs j % 9223372036854775808 : Nat) : Int) = (mag (lim xs j) : Int) := rfl
        rw [hmx, hjm] at hnt
        have d1 : ((n : Int) == (n : Int)) = true := by simp
        clear hq0 hz1 hjm hmx
        generalize lim xs j = x at *
        go_wp2
        go_ret
        exact ⟨rfl, hB⟩
end Go.Proofs.Ytaefalmabphadab
