/- fadd: addFinite. -/
import Derived.Test.YtgobclmihppopabFaOne
namespace Go.Proofs.Ytgobclmihppopab
open Go.RowKit Go.Shelf

set_option maxRecDepth 100000 in
set_option maxHeartbeats 4000000 in
theorem fadd_fin {a b : Nat} {mode : Int} {w : World} (ha : (a : Int) ≤ 18446744073709551615) (hb : (b : Int) ≤ 18446744073709551615) (fa : fe a ≠ 2047) (fb : fe b ≠ 2047) (hle : b % 9223372036854775808 ≤ a % 9223372036854775808) :
    Calls Try.prog 93 #[.int .u64 (a : Int), .int .u64 (b : Int), .int .i64 mode] w fun e W' => e = .returned (.tuple #[.int .u64 ((rsum (neg6 a) (sig a) (xpo a) (neg6 b) (sig b) (xpo b) mode).1 : Int), .int .i64 ((rsum (neg6 a) (sig a) (xpo a) (neg6 b) (sig b) (xpo b) mode).2 : Int)]) ∧ Below w.heap.size w W' := by
  have hA := psplit_fin1 (w := w) ha fa
  have hB := psplit_fin1 (w := w) hb fb
  obtain ⟨n, hn, hm, hf⟩ := fa_order fa fb hle
  have xa := xpo_range06 a
  have xb := xpo_range06 b
  have sa := (sig_fits fa).1.2.1
  have sb := (sig_fits fb).1.2.1
  obtain ⟨P, hP⟩ : ∃ P, P = rsum (neg6 a) (sig a) (xpo a) (neg6 b) (sig b) (xpo b) mode := ⟨_, rfl⟩
  rw [← hP]
  clear ha hb fa fb hle
  generalize sig a = mA at *
  generalize sig b = mB at *
  generalize xpo a = xA at *
  generalize xpo b = xB at *
  generalize neg6 a = sA at *
  generalize neg6 b = sB at *
  have z1 : xA - xB = (n : Int) := by omega
  have hlow := fun u => fadd_lower (m := mB) (n := n) (w := u) sb (by omega)
  obtain ⟨l1, l2⟩ := fa_lt (n := n) sb
  have hz := fun (u : World) => fadd_sign (s := sA) (t := sB) (mode := mode) (w := u)
  have hpz := fun (s : Bool) (u : World) => pzero1 s u
  have x1 : -1074 ≤ xA := xa.1
  have x2 : xA ≤ 972 := xa.2
  have x3 : -1074 ≤ xB := xb.1
  have x4 : xB ≤ 972 := xb.2
  by_cases hs : sA = sB
  · subst hs
    have hsum := fun {hi lo : Nat} => fa_sum (neg := sA) (mA := mA) (mB := mB) (n := n) (hi := hi) (lo := lo) (xA := xA) (xB := xB) (mode := mode) hn sb hf x3 x2
    rw [if_pos rfl] at hz
    generalize faHi mB n = H at *
    generalize faLo mB n = L at *
    generalize faMore mB n = more at *
    have h2 := hsum (hi := H + mA) (lo := L) (by omega)
    rw [← hP] at h2
    have hround := fun u => pround (neg := sA) (more := more) (hi := H + mA) (lo := L) (exp := xA - 64) (mode := mode) (w := u) (by omega) (by omega) (by omega) (by omega)
    clear hsum hn hm hf hP
    obtain ⟨K, hK⟩ : ∃ K, K = H + mA := ⟨_, rfl⟩
    have hKi : (H : Int) + (mA : Int) = (K : Int) := by omega
    rw [← hK] at h2 hround
    have hKl : (K : Int) ≤ 18014398509481984 := by omega
    have hLl : (L : Int) ≤ 18446744073709551615 := by omega
    have hbs : (sA == sA) = true := by cases sA <;> rfl
    clear hK
    by_cases k0 : K = 0
    · by_cases k1 : L = 0
      · subst k0 k1
        rw [if_pos (by rw [Nat.zero_mul])] at h2
        subst h2
        clear l1 l2 sa sb xa xb hround
        go_enter Try.func93, Try.ntmps93
        go_wp2_with fail
        refine hA.mono ?_
        rintro e w1 ⟨rfl, rfl⟩
        clear hA
        go_wp2_with fail
        refine hB.mono ?_
        rintro e w1 ⟨rfl, rfl⟩
        clear hB
        go_wp2_with fail
        refine (hlow _).mono ?_
        rintro e w1 ⟨rfl, b1⟩
        clear hlow
        go_wp2_with fail
        refine (hz _).mono ?_
        rintro e w2 ⟨rfl, rfl⟩
        go_wp2_with fail
        refine (hpz _ _).mono ?_
        rintro e w2 ⟨rfl, rfl⟩
        go_wp2
        go_ret2
        exact ⟨rfl, b1⟩
      · have d0 : ((L : Int) == 0) = false := beq_eq_false_iff_ne.2 (by omega)
        subst k0
        rw [if_neg (by rw [Nat.zero_mul, Nat.zero_add]; exact k1)] at h2
        subst h2
        clear l1 l2 sa sb xa xb k1
        generalize prnd sA 0 L (xA - 64) more mode = P at *
        go_enter Try.func93, Try.ntmps93
        go_wp2_with fail
        refine hA.mono ?_
        rintro e w1 ⟨rfl, rfl⟩
        clear hA
        go_wp2_with fail
        refine hB.mono ?_
        rintro e w1 ⟨rfl, rfl⟩
        clear hB
        go_wp2_with fail
        refine (hlow _).mono ?_
        rintro e w1 ⟨rfl, b1⟩
        clear hlow
        go_wp2_with fail
        refine (hround _).mono ?_
        rintro e w2 ⟨rfl, b2⟩
        go_wp2
        go_ret2
        exact ⟨rfl, below_both b1 b2⟩
    · have d0 : ((K : Int) == 0) = false := beq_eq_false_iff_ne.2 (by omega)
      have hne : ¬ K * 18446744073709551616 + L = 0 := by
        have := Nat.le_mul_of_pos_right K (show 0 < 18446744073709551616 by decide)
        omega
      rw [if_neg hne] at h2
      subst h2
      clear hne l1 l2 sa sb xa xb k0
      generalize prnd sA K L (xA - 64) more mode = P at *
      go_enter Try.func93, Try.ntmps93
      go_wp2_with fail
      refine hA.mono ?_
      rintro e w1 ⟨rfl, rfl⟩
      clear hA
      go_wp2_with fail
      refine hB.mono ?_
      rintro e w1 ⟨rfl, rfl⟩
      clear hB
      go_wp2_with fail
      refine (hlow _).mono ?_
      rintro e w1 ⟨rfl, b1⟩
      clear hlow
      go_wp2_with fail
      refine (hround _).mono ?_
      rintro e w2 ⟨rfl, b2⟩
      go_wp2
      go_ret2
      exact ⟨rfl, below_both b1 b2⟩
  · have hdif := fun {hi lo : Nat} => fa_dif (neg := sA) (other := sB) (mA := mA) (mB := mB) (n := n) (hi := hi) (lo := lo) (xA := xA) (xB := xB) (mode := mode) hs hn sb hf x3 x2 hm
    have hbs : (sA == sB) = false := by cases sA <;> cases sB <;> first | rfl | exact absurd rfl hs
    rw [if_neg hs] at hz
    have hroom : faHi mB n * 18446744073709551616 + faLo mB n + (if faMore mB n then 1 else 0) ≤ mA * 18446744073709551616 := by
      by_cases hnn : 64 < n
      · obtain ⟨f1, f2⟩ := fa_far (m := mB) hnn
        have h8 := hf hnn
        rw [f1, f2, Nat.zero_mul, Nat.zero_add]
        have h7 : mA ≤ mA * 18446744073709551616 := Nat.le_mul_of_pos_right _ (by decide)
        exact Nat.le_trans (by split <;> omega) h7
      · have hmo : faMore mB n = false := by unfold faMore; rw [decide_eq_false hnn]; rfl
        rw [hmo, fa_words (by omega), if_neg Bool.false_ne_true, Nat.add_zero]
        have h5 := Nat.mul_le_mul_right (2 ^ (64 - n)) hm
        rw [Nat.mul_assoc, ← Nat.pow_add, show n + (64 - n) = 64 by omega] at h5
        exact h5
    generalize faHi mB n = H at *
    generalize faLo mB n = L at *
    generalize faMore mB n = more at *
    have htk := fun u => fadd_take (m := mA) (hi := H) (lo := L) (more := more) (w := u) (by omega) (by omega) l2 hroom
    have hround := fun (hi lo : Nat) (h1 : hi ≤ 18446744073709551615) (h2 : lo ≤ 18446744073709551615) u => pround (neg := sA) (more := more) (hi := hi) (lo := lo) (exp := xA - 64) (mode := mode) (w := u) (by omega) (by omega) (by omega) (by omega)
    have hHl : (H : Int) ≤ 18446744073709551615 := by omega
    have hLl : (L : Int) ≤ 18446744073709551615 := by omega
    have hfin : ∀ {K J : Nat}, K * 18446744073709551616 + J + (H * 18446744073709551616 + L) + (if more then 1 else 0) = mA * 18446744073709551616 → P = if K * 18446744073709551616 + J = 0 then (sgn (decide (mode = 4)), 0) else prnd sA K J (xA - 64) more mode := fun h => hP.trans (hdif h)
    clear hdif hn hm hf hP hs hroom l1 l2 sa sb xa xb
    go_enter Try.func93, Try.ntmps93
    go_wp2_with fail
    refine hA.mono ?_
    rintro e w1 ⟨rfl, rfl⟩
    clear hA
    go_wp2_with fail
    refine hB.mono ?_
    rintro e w1 ⟨rfl, rfl⟩
    clear hB
    go_wp2_with fail
    refine (hlow _).mono ?_
    rintro e w1 ⟨rfl, b1⟩
    clear hlow
    go_wp2_with fail
    refine (htk _).mono ?_
    rintro e w2 ⟨K, J, rfl, k1, k2, k3, rfl⟩
    clear htk
    have h2 := hfin k3
    replace hround := hround K J k1 k2
    have hKl : (K : Int) ≤ 18446744073709551615 := by omega
    have hJl : (J : Int) ≤ 18446744073709551615 := by omega
    clear hfin k3 hHl hLl k1 k2
    by_cases k0 : K = 0
    · by_cases k1 : J = 0
      · subst k0 k1
        rw [if_pos (by rw [Nat.zero_mul])] at h2
        clear hround
        go_wp2_with fail
        refine (hz _).mono ?_
        rintro e w2 ⟨rfl, rfl⟩
        go_wp2_with fail
        refine (hpz _ _).mono ?_
        rintro e w2 ⟨rfl, rfl⟩
        go_wp2
        go_ret2
        exact ⟨by rw [h2]; rfl, b1⟩
      · have d0 : ((J : Int) == 0) = false := beq_eq_false_iff_ne.2 (by omega)
        subst k0
        rw [if_neg (by rw [Nat.zero_mul, Nat.zero_add]; exact k1)] at h2
        rw [← h2] at hround
        clear k1 h2
        go_wp2_with fail
        refine (hround _).mono ?_
        rintro e w2 ⟨rfl, b2⟩
        go_wp2
        go_ret2
        exact ⟨rfl, below_both b1 b2⟩
    · have d0 : ((K : Int) == 0) = false := beq_eq_false_iff_ne.2 (by omega)
      have hne : ¬ K * 18446744073709551616 + J = 0 := by
        have := Nat.le_mul_of_pos_right K (show 0 < 18446744073709551616 by decide)
        omega
      rw [if_neg hne] at h2
      rw [← h2] at hround
      clear k0 h2 hne
      go_wp2_with fail
      refine (hround _).mono ?_
      rintro e w2 ⟨rfl, b2⟩
      go_wp2
      go_ret2
      exact ⟨rfl, below_both b1 b2⟩
end Go.Proofs.Ytgobclmihppopab
