/- The law PermSwaps, walked. -/
import Derived.Test.YtgppbimbampenaaPeOddL
namespace Go.Proofs.Ytgppbimbampenaa
open Go.RowKit Go.Shelf
/-- may the first k swaps be? -/
def okU (n : Int) (sw : List Int) (k : Nat) : Bool := (decide (0 ≤ n) && (decide (n ≤ 64) && decide ((sw.length : Int) ≤ n))) && (List.range k).all fun j => rowB (zat sw j) n
theorem okU_succ (n : Int) (sw : List Int) (k : Nat) : okU n sw (k + 1) = (okU n sw k && rowB (zat sw k) n) := by
  unfold okU
  rw [List.range_succ, List.all_append, Bool.and_assoc]
  simp [Bool.and_assoc]
theorem okU_all (n : Int) (sw : List Int) : okU n sw sw.length = okS n sw := by
  rw [Bool.eq_iff_iff, okS_iff]
  unfold okU
  simp only [Bool.and_eq_true, decide_eq_true_eq, List.all_eq_true, List.mem_range, rowB_iff]
  constructor
  · rintro ⟨⟨h1, h2, h3⟩, h4⟩; exact ⟨h1, h2, h3, h4⟩
  · rintro ⟨h1, h2, h3, h4⟩; exact ⟨⟨h1, h2, h3⟩, h4⟩
set_option maxRecDepth 100000 in
set_option maxHeartbeats 8000000 in
theorem permSwaps_calls {v : Value} {sw : List Int} {n : Int} {w : World} (hpos : 0 < w.heap.size) (hA : ArgK .i64 w v sw) (hl : sw.length ≤ 17592186044416) :
    Calls Try.prog 5 #[.int .i64 n, v] w fun e W' => e = .returned (.bool true) ∧ Below w.heap.size w W' := by
  have hal := law17_alive (w := w)
  have C1 := Lib.hid (fun (W : World) (h : Below w.heap.size w W) => perm_of (n := n) (hA.behind h) hl)
  obtain ⟨S, a, cap, hS, rfl, hcap, HA⟩ := hA.opened
  have HO := Lib.hid (okU_succ n sw)
  have HO0 : Hid (okU n sw 0 = (decide (0 ≤ n) && (decide (n ≤ 64) && decide ((sw.length : Int) ≤ n)))) := Lib.hid (by unfold okU; simp)
  have HOA := Lib.hid (okU_all n sw)
  have HD := Lib.hid (show ∀ k, oddS sw (k + 1) = (oddS sw k != (zat sw k != (k : Int))) from fun _ => rfl)
  have HD0 := Lib.hid (show oddS sw 0 = false from rfl)
  have HF : Hid (okS n sw = true → permB (swZ n.toNat sw sw.length) = true ∧ oddP (swZ n.toNat sw sw.length) = oddS sw sw.length ∧ ((swZ n.toNat sw sw.length).length : Int) = n ∧ (swZ n.toNat sw sw.length).length ≤ 64) := Lib.hid (fun h => by
    obtain ⟨h1, h2, _⟩ := okS_iff.1 h
    have hn : n = (n.toNat : Int) := by omega
    rw [hn] at h
    have p := swZ_perm h sw.length (Nat.le_refl _)
    have s := swZ_sign h sw.length (Nat.le_refl _)
    refine ⟨p, by unfold oddP; rw [p, s, Bool.true_and], by rw [swZ_length]; omega, by rw [swZ_length]; omega⟩)
  clear hA hcap
  generalize okU n sw = OU at *
  generalize oddS sw = OS at *
  generalize okS n sw = ok at *
  generalize swZ n.toNat sw sw.length = R at *
  have HE1 : Hid (ok = true → (if ok = true then (0 : Int) else 4) = 0) := Lib.hid (fun h => by rw [if_pos h])
  have HE0 : Hid (ok = false → (if ok = true then (0 : Int) else 4) = 4) := Lib.hid (fun h => by rw [h]; rfl)
  have HLR : Hid (ok = true → ((if ok = true then R else []).length : Int) = n ∧ (if ok = true then R else []) = R) := Lib.hid (fun h => by
    rw [if_pos h]; exact ⟨(HF.out h).2.2.1, rfl⟩)
  have HLN : Hid (ok = false → (if ok = true then R else []).length = 0) := Lib.hid (fun h => by rw [h]; rfl)
  generalize (if ok = true then R else []) = RR at *
  generalize (if ok = true then (0 : Int) else 4) = E at *
  go_enter Try.func5, Try.ntmps5
  go_wp2_with fail
  refine hal.mono ?_
  rintro e W1 ⟨rfl, b1⟩
  clear hal
  go_wp2_with fail
  refine (C1.out _ b1).mono ?_
  rintro e W2 ⟨u1, rfl, o1, b2⟩
  replace b1 := below_both b1 b2
  clear b2 C1
  have hp2 : 0 < W2.heap.size := Nat.lt_of_lt_of_le hpos b1.size
  have A1 := Lib.hid (o1.arg hp2)
  obtain ⟨u2, u3, hu⟩ := o1.len
  subst hu
  clear o1
  generalize RR.length = rl at *
  generalize sw.length = m at *
  go_upto_region 4 with (fail)
  go_cut [7] from 18 to 29 (fun u wx => u = .bool (OU 0) ∧ wx = W2)
  case first =>
    have h := HO0.out
    by_cases h1 : 0 ≤ n
    · by_cases h2 : n ≤ 64
      · by_cases h3 : (m : Int) ≤ n
        · rw [decide_eq_true h1, decide_eq_true h2, decide_eq_true h3] at h
          go_wp2
          go_meet
          exact ⟨by rw [h]; rfl, rfl⟩
        · rw [decide_eq_true h1, decide_eq_true h2, decide_eq_false h3] at h
          have d : decide ((m : Int) ≤ n) = false := decide_eq_false h3
          go_wp2
          go_meet
          exact ⟨by rw [h]; first | rfl | (rw [d]; rfl), rfl⟩
      · rw [decide_eq_true h1, decide_eq_false h2] at h
        have d : decide (n ≤ 64) = false := decide_eq_false h2
        go_wp2
        go_meet
        exact ⟨by rw [h]; first | rfl | (rw [d]; rfl), rfl⟩
    · rw [decide_eq_false h1] at h
      have d : decide (0 ≤ n) = false := decide_eq_false h1
      go_wp2
      go_meet
      exact ⟨by rw [h]; first | rfl | (rw [d]; rfl), rfl⟩
  obtain ⟨rfl, hw3⟩ := hcut
  cases hw3
  go_wp2
  go_loopw [7, 8, 9] (fun o d i wr => ∃ k : Nat, k ≤ m ∧ i = .int .i64 k ∧ o = .bool (OU k) ∧ d = .bool (OS k) ∧ wr = W2) (fun _ _ i _ => m - (intOf i).toNat)
  case atStart => exact ⟨0, Nat.zero_le _, rfl, rfl, by rw [HD0.out], rfl⟩
  case round =>
    obtain ⟨k, hk, rfl, rfl, rfl, hw⟩ := hrel
    cases hw
    by_cases hlt : k < m
    · obtain ⟨o, rfl, kc⟩ := HA.out W2 b1 k hlt
      have h1 := HO.out k
      have HD1 := Lib.hid (HD.out k)
      generalize hOU : OU (k + 1) = ou at *
      have HOU := Lib.hid hOU
      generalize OU k = oo at *
      generalize OS k = os at *
      generalize zat sw k = z at *
      clear hOU
      cases oo
      · rw [Bool.false_and] at h1
        subst h1
        go_wp2
        go_roundw
        case rel => exact ⟨k + 1, by omega, by simp, by rw [HOU.out], by rw [HD1.out]; rfl, trivial⟩
        case measure => simp [intOf]; omega
      · rw [Bool.true_and] at h1
        by_cases q1 : 0 ≤ z
        · by_cases q2 : z < n
          · rw [rowB_iff.2 ⟨q1, q2⟩] at h1
            subst h1
            go_wp2
            go_roundw
            case rel => exact ⟨k + 1, by omega, by simp, by rw [HOU.out], by rw [HD1.out]; rfl, trivial⟩
            case measure => simp [intOf]; omega
          · rw [rowB_no.2 (fun h => q2 h.2)] at h1
            subst h1
            go_wp2
            go_roundw
            case rel => exact ⟨k + 1, by omega, by simp, by rw [HOU.out], by rw [HD1.out]; rfl, trivial⟩
            case measure => simp [intOf]; omega
        · rw [rowB_no.2 (fun h => q1 h.1)] at h1
          subst h1
          go_wp2
          go_roundw
          case rel => exact ⟨k + 1, by omega, by simp, by rw [HOU.out], by rw [HD1.out]; rfl, trivial⟩
          case measure => simp [intOf]; omega
    · obtain rfl : k = m := by omega
      have hoa := HOA.out
      clear hlt
      cases ok
      · have h0 := HE0.out rfl
        have h1 := HLN.out rfl
        rw [hoa]
        subst h0 h1
        clear hoa
        go_wp2
        go_ret
        exact ⟨rfl, b1⟩
      · have h0 := HE1.out rfl
        obtain ⟨h1, h2⟩ := HLR.out rfl
        obtain ⟨f1, f2, _, f4⟩ := HF.out rfl
        rw [hoa]
        subst h0 h2
        have I1 := Lib.hid (fun W (h : Below W2.heap.size W2 W) => law17_is (A1.out.behind h) (by omega))
        have I2 := Lib.hid (fun W (h : Below W2.heap.size W2 W) => perm_odd (A1.out.behind h))
        rw [f1] at I1
        rw [f2] at I2
        have d : ((rl : Int) == n) = true := beq_iff_eq.2 h1
        generalize OS k = os at *
        clear hoa f1 f2 f4 h1 HF HLR HE1 HE0 HLN A1
        go_wp2_with fail
        refine (I1.out _ (Below.refl _ _)).mono ?_
        rintro e W3 ⟨rfl, rfl⟩
        go_wp2_with fail
        refine (I2.out _ (Below.refl _ _)).mono ?_
        rintro e W3 ⟨rfl, b3⟩
        clear I1 I2
        cases os
        all_goals
          go_wp2
          go_ret
          exact ⟨rfl, below_both b1 b3⟩
end Go.Proofs.Ytgppbimbampenaa
