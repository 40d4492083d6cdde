/- vec.Largest; vernierlaw19.alive. -/
import Derived.Test.YtjljmccdlkdgoaaVeSpec
namespace Go.Proofs.Ytjljmccdlkdgoaa
open Go.RowKit Go.Shelf
theorem bel_new' (W : World) (o : Obj) : Below W.heap.size W (W.alloc o) := (Below.refl _ _).alloc (Nat.le_refl _) o
theorem mag_lt (a : Nat) : mag a < 9223372036854775808 := Nat.mod_lt _ (by decide)
theorem mag_mag (a : Nat) : mag (mag a) = mag a := Nat.mod_eq_of_lt (mag_lt a)
theorem key_mag (a : Nat) : key (mag a) = (mag a : Int) := by
  have h := mag_lt a
  rcases key_of (a := mag a) (by omega) with ⟨h1, h2, _⟩ | ⟨_, _, h3⟩
  · rw [mag_mag] at h2; omega
  · rw [h3, mag_mag]
/-- numbers without signs, held against each other -/
theorem kless_mag {a b : Nat} (ha : isNum a = true) (hb : isNum b = true) : kless (mag a) (mag b) = decide (mag a < mag b) := by
  have h1 : isNum (mag a) = true := by unfold isNum at *; rw [mag_mag]; exact ha
  have h2 : isNum (mag b) = true := by unfold isNum at *; rw [mag_mag]; exact hb
  unfold kless
  rw [h1, h2, key_mag, key_mag]
  simp
theorem larV_num (xs : List Nat) (k : Nat) : ∃ a, isNum a = true ∧ (larV xs k).2 = mag a := by
  induction k with
  | zero => exact ⟨0, by decide, rfl⟩
  | succ k ih =>
    unfold larV
    split
    · exact ih
    · rename_i h
      split
      · exact ⟨lim xs k, (isNum_cls _).2 h, rfl⟩
      · exact ih
set_option maxRecDepth 100000 in
set_option maxHeartbeats 8000000 in
theorem vec_largest {v : Value} {xs : List Nat} {w : World} (hA : Arg w v xs) (hl : Low 18446744073709551616 xs) (hn : xs.length ≤ 17592186044416) :
    Calls Try.prog 11 #[v] w fun e W' => e = .returned (.tuple #[.int .i64 (larV xs xs.length).1, .int .u64 ((larV xs xs.length).2 : Int)]) ∧ Below w.heap.size w W' := by
  have hz := fun w => pzero1 false w
  rw [show sgn false = 0 from rfl] at hz
  have HXL := Lib.hid (fun k => lim_lt hl (by decide : 0 < 18446744073709551616) k)
  have HRG := Lib.hid (larV_range xs)
  have HNU := Lib.hid (larV_num xs)
  have HST := Lib.hid (fun k => show larV xs (k + 1) = (if cls (lim xs k) = 3 then larV xs k else if (larV xs k).1 = -1 ∨ (larV xs k).2 < lim xs k % 9223372036854775808 then ((k : Int), lim xs k % 9223372036854775808) else larV xs k) from rfl)
  have HL0 := Lib.hid (show larV xs 0 = (-1, 0) from rfl)
  obtain ⟨S, a, cap, hS, rfl, hcap, HA⟩ := hA.opened
  clear hA hl hcap
  generalize larV xs = F at *
  generalize xs.length = m at *
  go_enter Try.func11, Try.ntmps11
  go_wp2_with fail
  refine (hz _).mono ?_
  rintro e w1 ⟨rfl, rfl⟩
  clear hz
  go_wp2
  go_loopw [4, 5, 12] (fun p f i wr => ∃ (k n : Nat) (z : Int), k ≤ m ∧ i = .int .i64 k ∧ p = .int .i64 z ∧ f = .int .u64 (n : Int) ∧ Hid (F k = (z, n)) ∧ Below w.heap.size w wr) (fun _ _ i _ => m - (intOf i).toNat)
  case atStart => exact ⟨0, 0, -1, Nat.zero_le _, rfl, rfl, rfl, Lib.hid HL0.out, Below.refl _ _⟩
  case round =>
    obtain ⟨k, n, z, hk, rfl, rfl, rfl, HF, hB⟩ := hrel
    by_cases hlt : k < m
    · obtain ⟨oa, rfl, ka⟩ := HA.out wr hB k hlt
      have hrg := HRG.out k
      have hnu := HNU.out k
      have hst := HST.out k
      rw [HF.out] at hrg hnu hst
      dsimp only at hrg hnu hst
      have h1 := HXL.out k
      have hcl := fun w => pclass1 (a := lim xs k) (w := w) (by omega)
      have hab := fun w => fcmp_abs (a := lim xs k) (w := w) (by omega)
      have hn64 : (n : Int) ≤ 18446744073709551615 := by omega
      generalize lim xs k = x at *
      by_cases hc : cls x = 3
      · have d : ((cls x : Int) == 3) = true := by rw [hc]; rfl
        rw [if_pos hc] at hst
        have HS := Lib.hid hst
        clear hst hc hnu hab h1
        generalize cls x = cx at *
        go_wp2_with fail
        refine (hcl _).mono ?_
        rintro e w2 ⟨rfl, rfl⟩
        clear hcl
        go_wp2
        go_roundw
        case rel => exact ⟨k + 1, n, z, by omega, by simp, rfl, rfl, Lib.hid HS.out, hB⟩
        case measure => simp [intOf]; omega
      · have d : ((cls x : Int) == 3) = false := beq_eq_false_iff_ne.2 (by omega)
        have hisn := (isNum_cls x).2 hc
        have hax : absB x = mag x := by unfold absB; rw [if_pos hisn]
        rw [hax] at hab
        rw [if_neg hc] at hst
        have hst2 : F (k + 1) = if z = -1 ∨ n < mag x then ((k : Int), mag x) else (z, n) := hst
        obtain ⟨y, hy, hny⟩ := hnu
        have hmx := mag_lt x
        have hls := fun w => fcmp_less (a := n) (b := mag x) (w := w) hn64 (by omega)
        rw [hny, kless_mag hy hisn, ← hny] at hls
        clear hst hc hisn hax hy hny h1
        generalize cls x = cx at *
        generalize mag x = s at *
        have HC := Lib.hid hcl
        have HAB := Lib.hid hab
        have HST2 := Lib.hid hst2
        have HLS := Lib.hid hls
        clear hcl hab hst2 hls hmx
        by_cases hz1 : z < 0
        · have HF1 : Hid (F (k + 1) = ((k : Int), s)) := Lib.hid (by rw [HST2.out, if_pos (.inl (by omega))])
          go_wp2_with fail
          refine (HC.out _).mono ?_
          rintro e w2 ⟨rfl, rfl⟩
          go_wp2_with fail
          refine (HAB.out _).mono ?_
          rintro e w3 ⟨rfl, b3⟩
          go_wp2
          go_roundw
          case rel => exact ⟨k + 1, s, k, by omega, by simp, rfl, rfl, Lib.hid HF1.out, below_both hB b3⟩
          case measure => simp [intOf]; omega
        · by_cases hns : n < s
          · have HF1 : Hid (F (k + 1) = ((k : Int), s)) := Lib.hid (by rw [HST2.out, if_pos (.inr hns)])
            rw [decide_eq_true hns] at HLS
            clear hns
            go_wp2_with fail
            refine (HC.out _).mono ?_
            rintro e w2 ⟨rfl, rfl⟩
            go_wp2_with fail
            refine (HAB.out _).mono ?_
            rintro e w3 ⟨rfl, b3⟩
            go_wp2_with fail
            refine (HLS.out _).mono ?_
            rintro e w4 ⟨rfl, b4⟩
            go_wp2
            go_roundw
            case rel => exact ⟨k + 1, s, k, by omega, by simp, rfl, rfl, Lib.hid HF1.out, below_both hB (below_both b3 b4)⟩
            case measure => simp [intOf]; omega
          · have HF1 : Hid (F (k + 1) = (z, n)) := Lib.hid (by rw [HST2.out, if_neg (by omega)])
            rw [decide_eq_false hns] at HLS
            clear hns
            go_wp2_with fail
            refine (HC.out _).mono ?_
            rintro e w2 ⟨rfl, rfl⟩
            go_wp2_with fail
            refine (HAB.out _).mono ?_
            rintro e w3 ⟨rfl, b3⟩
            go_wp2_with fail
            refine (HLS.out _).mono ?_
            rintro e w4 ⟨rfl, b4⟩
            go_wp2
            go_roundw
            case rel => exact ⟨k + 1, n, z, by omega, by simp, rfl, rfl, Lib.hid HF1.out, below_both hB (below_both b3 b4)⟩
            case measure => simp [intOf]; omega
    · obtain rfl : k = m := by omega
      clear hlt
      go_wp2
      go_ret2
      exact ⟨by rw [HF.out]; rfl, hB⟩
theorem dot_alive : dotE [4607182418800017408, 4611686018427387904] [4613937818241073152, 4616189618054758400] = 0 ∧ dotR [4607182418800017408, 4611686018427387904] [4613937818241073152, 4616189618054758400] = 4622382067542392832 := by
  constructor
  · decide +kernel
  · decide +kernel
/-- the greatest one is so -/
theorem larV_best (xs : List Nat) (k : Nat) : (∀ j, j < k → cls (lim xs j) ≠ 3 → 0 ≤ (larV xs k).1 ∧ mag (lim xs j) ≤ (larV xs k).2 ∧ (mag (lim xs j) = (larV xs k).2 → (larV xs k).1 ≤ (j : Int))) ∧
    ((larV xs k).1 = -1 → (larV xs k).2 = 0) ∧ ((larV xs k).1 ≠ -1 → ∃ a : Nat, (larV xs k).1 = (a : Int) ∧ a < k ∧ mag (lim xs a) = (larV xs k).2 ∧ cls (lim xs a) ≠ 3) := by
  induction k with
  | zero => exact ⟨fun j hj => absurd hj (by omega), fun _ => rfl, fun h => absurd rfl h⟩
  | succ k ih =>
    obtain ⟨i1, i2, i3⟩ := ih
    have hr := larV_range xs k
    have hm : lim xs k % 9223372036854775808 = mag (lim xs k) := rfl
    rw [larV, hm]
    generalize larV xs k = p at *
    obtain ⟨z, n⟩ := p
    dsimp only at i1 i2 i3 hr ⊢
    by_cases hc : cls (lim xs k) = 3
    · rw [if_pos hc]
      dsimp only
      refine ⟨fun j hj hn => i1 j (by rcases Nat.lt_or_ge j k with h | h; exact h; obtain rfl : j = k := by omega
                                      exact absurd hc hn) hn, i2, fun h => ?_⟩
      obtain ⟨a, a1, a2, a3⟩ := i3 h
      exact ⟨a, a1, by omega, a3⟩
    · rw [if_neg hc]
      by_cases ht : z = -1 ∨ n < mag (lim xs k)
      · rw [if_pos ht]
        dsimp only
        refine ⟨fun j hj hn => ?_, fun h => by omega, fun _ => ⟨k, rfl, by omega, rfl, hc⟩⟩
        rcases Nat.lt_or_ge j k with h | h
        · obtain ⟨q1, q2, q3⟩ := i1 j h hn
          have ht2 : n < mag (lim xs k) := by rcases ht with ht | ht; omega; exact ht
          exact ⟨by omega, by omega, fun e => by omega⟩
        · obtain rfl : j = k := by omega
          exact ⟨by omega, Nat.le_refl _, fun _ => Int.le_refl _⟩
      · rw [if_neg ht]
        dsimp only
        refine ⟨fun j hj hn => ?_, i2, fun h => ?_⟩
        · rcases Nat.lt_or_ge j k with h | h
          · exact i1 j h hn
          · obtain rfl : j = k := by omega
            exact ⟨by omega, by omega, fun e => by omega⟩
        · obtain ⟨a, a1, a2, a3⟩ := i3 h
          exact ⟨a, a1, by omega, a3⟩
end Go.Proofs.Ytjljmccdlkdgoaa
