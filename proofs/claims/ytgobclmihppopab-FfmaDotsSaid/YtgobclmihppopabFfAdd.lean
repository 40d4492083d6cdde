/- ffma.add: what it keeps. -/
import Derived.Test.YtgobclmihppopabFfRaise
import Derived.Test.YtgobclmihppopabFaSpec
import Derived.Deep.RegionHeld3
import Derived.Deep.CutBlock
import Derived.Deep.DeepCutAuto
import Derived.Deep.RegionWith
namespace Go.Proofs.Ytgobclmihppopab
open Go.RowKit Go.Shelf

/-- a number as raise tells it -/
def Up (N : Nat) (x : Int) (H L : Nat) (X : Int) : Prop :=
  H < 9223372036854775808 ∧ L < 18446744073709551616 ∧ ((N = 0 ∧ H = 0 ∧ L = 0 ∧ X = -16384) ∨
    (N ≠ 0 ∧ ∃ g : Nat, g ≤ 126 ∧ X = x - (g : Int) ∧ H * 18446744073709551616 + L = N * 2 ^ g ∧ 2 ^ 126 ≤ H * 18446744073709551616 + L ∧ H * 18446744073709551616 + L < 2 ^ 127))
theorem two_zero_w : 0 * 18446744073709551616 + 0 = 0 := rfl
theorem up_rsum {s t : Bool} {N M H L H' L' : Nat} {x y X Y mode : Int} (uN : Up N x H L X) (uM : Up M y H' L' Y) :
    rsum s N x t M y mode = rsum s (H * 18446744073709551616 + L) X t (H' * 18446744073709551616 + L') Y mode := by
  obtain ⟨_, _, uN⟩ := uN
  obtain ⟨_, _, uM⟩ := uM
  rcases uN with ⟨rfl, rfl, rfl, rfl⟩ | ⟨n0, g, _, rfl, e1, _, _⟩
  · rw [two_zero_w]
    rcases uM with ⟨rfl, rfl, rfl, rfl⟩ | ⟨m0, k, _, rfl, e2, _, _⟩
    · rw [two_zero_w, rsum_zeros, rsum_zeros]
    · rw [e2, rsum_comm, rsum_left (Nat.pos_of_ne_zero m0), rsum_comm, rsum_left (Nat.mul_pos (Nat.pos_of_ne_zero m0) (Nat.two_pow_pos k)), rnd_scale (Nat.pos_of_ne_zero m0) (by decide)]
      congr 1
      omega
  · rcases uM with ⟨rfl, rfl, rfl, rfl⟩ | ⟨m0, k, _, rfl, e2, _, _⟩
    · rw [two_zero_w, e1, rsum_left (Nat.pos_of_ne_zero n0), rsum_left (Nat.mul_pos (Nat.pos_of_ne_zero n0) (Nat.two_pow_pos g)), rnd_scale (Nat.pos_of_ne_zero n0) (by decide)]
      congr 1
      omega
    · rw [e1, e2, rsum_down, rsum_comm s N x, rsum_comm s N x, rsum_down]
theorem nearer_swap {h l h' l' : Nat} {x x' : Int} (h0 : nearer h l x h' l' x' = true) : nearer h' l' x' h l x = false := by
  unfold nearer at *
  by_cases c1 : x = x'
  · subst c1
    rw [if_neg (by simp)] at h0 ⊢
    by_cases c2 : h = h'
    · subst c2
      rw [if_neg (by simp)] at h0 ⊢
      have := of_decide_eq_true h0
      exact decide_eq_false (by omega)
    · rw [if_pos c2] at h0
      rw [if_pos (fun e => c2 e.symm)]
      have := of_decide_eq_true h0
      exact decide_eq_false (by omega)
  · rw [if_pos c1] at h0
    rw [if_pos (fun e => c1 e.symm)]
    have := of_decide_eq_true h0
    exact decide_eq_false (by omega)
theorem words_le {h l h' l' : Nat} (hl' : l' < 18446744073709551616) (h0 : h' < h ∨ h' = h ∧ l' ≤ l) : h' * 18446744073709551616 + l' ≤ h * 18446744073709551616 + l := by
  rcases h0 with h0 | ⟨rfl, h1⟩
  · have h2 := Nat.mul_le_mul_right 18446744073709551616 (show h' + 1 ≤ h from h0)
    rw [Nat.add_mul, Nat.one_mul] at h2
    exact Nat.le_trans (Nat.le_of_lt (Nat.add_lt_add_left hl' _)) (Nat.le_trans h2 (Nat.le_add_right _ _))
  · exact Nat.add_le_add_left h1 _
/-- how far apart two are, told as plain numbers -/
def Apt (P Q : Nat) (X Y : Int) (g : Nat) : Prop :=
  X = Y + g ∧ g ≤ 100000 ∧ -16384 ≤ X ∧ X ≤ 5000 ∧
    (P = 0 ∧ Q = 0 ∨ 2 ^ 126 ≤ P ∧ P < 2 * 2 ^ 126 ∧ Q < 2 * 2 ^ 126 ∧ Q ≤ P * 2 ^ g ∧ (Q % 2 ^ g ≠ 0 → 2 ≤ g))
/-- which one is farther, and by how much -/
def Far (H L : Nat) (X : Int) (H' L' : Nat) (Y : Int) (g : Nat) : Prop :=
  H < 9223372036854775808 ∧ L < 18446744073709551616 ∧ H' < 9223372036854775808 ∧ L' < 18446744073709551616 ∧ Apt (H * 18446744073709551616 + L) (H' * 18446744073709551616 + L') X Y g
theorem up_far {N M H L H' L' : Nat} {x y X Y : Int} (uN : Up N x H L X) (uM : Up M y H' L' Y) (hN : N < 2 ^ 106) (hM : M < 2 ^ 106) (x1 : -3000 ≤ x) (x2 : x ≤ 3000) (y1 : -3000 ≤ y) (y2 : y ≤ 3000)
    (hn : nearer H L X H' L' Y = false) : ∃ g, Far H L X H' L' Y g := by
  have h127 : (2 : Nat) ^ 127 = 2 * 2 ^ 126 := by decide
  obtain ⟨a1, a2, uN⟩ := uN
  obtain ⟨b1, b2, uM⟩ := uM
  rcases uN with ⟨rfl, rfl, rfl, rfl⟩ | ⟨n0, g, hg, rfl, e1, e2, e3⟩
  · rcases uM with ⟨rfl, rfl, rfl, rfl⟩ | ⟨m0, k, hk, rfl, f1, f2, f3⟩
    · exact ⟨0, a1, a2, b1, b2, by omega, by omega, by omega, by omega, .inl ⟨rfl, rfl⟩⟩
    · exfalso
      unfold nearer at hn
      rw [if_pos (by omega), decide_eq_true (by omega)] at hn
      exact Bool.noConfusion hn
  · rw [h127] at e3
    rcases uM with ⟨rfl, rfl, rfl, rfl⟩ | ⟨m0, k, hk, rfl, f1, f2, f3⟩
    · refine ⟨(x - (g : Int) + 16384).toNat, a1, a2, b1, b2, by omega, by omega, by omega, by omega, .inr ⟨e2, e3, ?_, ?_, ?_⟩⟩
      · rw [two_zero_w]; exact Nat.mul_pos (by decide) (Nat.two_pow_pos _)
      · rw [two_zero_w]; exact Nat.zero_le _
      · rw [two_zero_w, Nat.zero_mod]; intro hc; exact absurd rfl hc
    · rw [h127] at f3
      have hk21 : 20 < k := by
        refine Nat.not_le.1 fun hc => ?_
        have h1 : M * 2 ^ k ≤ M * 2 ^ 20 := Nat.mul_le_mul_left _ (Nat.pow_le_pow_right (by decide) hc)
        have h2 : M * 2 ^ 20 < 2 ^ 106 * 2 ^ 20 := Nat.mul_lt_mul_of_pos_right hM (by decide)
        have h3 : (2 : Nat) ^ 106 * 2 ^ 20 = 2 ^ 126 := by decide
        rw [h3] at h2
        rw [f1] at f2
        exact absurd (Nat.lt_of_le_of_lt (Nat.le_trans f2 h1) h2) (Nat.lt_irrefl _)
      have hXY : y - (k : Int) ≤ x - (g : Int) := by
        refine Int.not_lt.1 fun hc => ?_
        unfold nearer at hn
        rw [if_pos (by omega), decide_eq_true hc] at hn
        exact Bool.noConfusion hn
      obtain ⟨d, hd⟩ : ∃ d : Nat, x - (g : Int) = y - (k : Int) + d := ⟨(x - (g : Int) - (y - (k : Int))).toNat, by omega⟩
      refine ⟨d, a1, a2, b1, b2, hd, by omega, by omega, by omega, .inr ⟨e2, e3, f3, ?_, ?_⟩⟩
      · by_cases hd0 : d = 0
        · subst hd0
          rw [Nat.pow_zero, Nat.mul_one]
          refine words_le b2 ?_
          unfold nearer at hn
          rw [if_neg (by omega)] at hn
          by_cases hc : H = H'
          · subst hc
            rw [if_neg (by simp)] at hn
            have := of_decide_eq_false hn
            exact .inr ⟨rfl, by omega⟩
          · rw [if_pos hc] at hn
            have := of_decide_eq_false hn
            exact .inl (by omega)
        · have h2 : 2 ≤ 2 ^ d := by
            obtain ⟨j, rfl⟩ : ∃ j, d = j + 1 := ⟨d - 1, by omega⟩
            rw [Nat.pow_succ]
            have := Nat.two_pow_pos j
            omega
          have h3 : 2 ^ 126 * 2 ≤ (H * 18446744073709551616 + L) * 2 ^ d := Nat.mul_le_mul e2 h2
          rw [Nat.mul_comm] at h3
          exact Nat.le_trans (Nat.le_of_lt f3) h3
      · intro hc
        refine Nat.not_lt.1 fun hlt => hc ?_
        rw [f1, show k = d + (k - d) by omega, Nat.pow_add, Nat.mul_left_comm]
        exact Nat.mul_mod_right _ _
/-- what add tells of two such, by their words -/
theorem apt_like {s : Bool} {P Q hi lo : Nat} {X Y mode : Int} {g : Nat} (hf : Apt P Q X Y g) (hN : hi * 18446744073709551616 + lo = P + Q / 2 ^ g) :
    rsum s P X s Q Y mode = if hi * 18446744073709551616 + lo = 0 then (sgn s, 0) else prnd s hi lo X (decide (Q % 2 ^ g ≠ 0)) mode := by
  obtain ⟨hX, _, x1, x2, h⟩ := hf
  rcases h with ⟨rfl, rfl⟩ | ⟨h1, h2, h3, h4, h5⟩
  · rw [Nat.zero_div] at hN
    rw [if_pos hN, rsum_zeros, if_pos rfl]
  · have hp : 0 < P := Nat.lt_of_lt_of_le (by decide) h1
    rw [if_neg (by rw [hN]; exact Nat.ne_of_gt (Nat.lt_of_lt_of_le hp (Nat.le_add_right _ _)))]
    exact ff_sum hX h1 (by omega) (by omega) hN
theorem apt_unlike {s t : Bool} {P Q hi lo : Nat} {X Y mode : Int} {g : Nat} (hs : s ≠ t) (hf : Apt P Q X Y g) (hN : hi * 18446744073709551616 + lo + Q / 2 ^ g + (if decide (Q % 2 ^ g ≠ 0) then 1 else 0) = P) :
    rsum s P X t Q Y mode = if hi * 18446744073709551616 + lo = 0 then (sgn (decide (mode = 4)), 0) else prnd s hi lo X (decide (Q % 2 ^ g ≠ 0)) mode := by
  obtain ⟨hX, _, x1, x2, h⟩ := hf
  rcases h with ⟨rfl, rfl⟩ | ⟨h1, h2, h3, h4, h5⟩
  · rw [if_pos (Nat.add_eq_zero_iff.1 (Nat.add_eq_zero_iff.1 hN).1).1, rsum_zeros, if_neg hs]
  · refine ff_dif hs hX h1 h3 (by omega) (by omega) h4 h5 ?_
    rw [← hN]
    by_cases c : Q % 2 ^ g = 0
    · simp [c]
    · simp [c]
theorem apt_room {P Q : Nat} {X Y : Int} {g : Nat} (hf : Apt P Q X Y g) : Q / 2 ^ g + (if decide (Q % 2 ^ g ≠ 0) then 1 else 0) ≤ P := by
  obtain ⟨hX, _, x1, x2, h⟩ := hf
  have hc : 0 < 2 ^ g := Nat.two_pow_pos g
  rcases h with ⟨rfl, rfl⟩ | ⟨h1, h2, h3, h4, h5⟩
  · rw [Nat.zero_div, Nat.zero_mod]; simp
  · by_cases c : Q % 2 ^ g = 0
    · rw [decide_eq_false (by omega), if_neg Bool.false_ne_true, Nat.add_zero]
      rw [Nat.mul_comm] at h4
      exact Nat.div_le_of_le_mul h4
    · rw [decide_eq_true c, if_pos rfl]
      refine (Nat.div_lt_iff_lt_mul hc).2 ?_
      refine Nat.lt_of_le_of_ne h4 fun he => c ?_
      rw [he]
      exact Nat.mul_mod_left _ _
theorem cls_sgn (s : Bool) : cls (sgn s) = 0 ∧ sig (sgn s) = 0 ∧ neg6 (sgn s) = s := by cases s <;> decide
theorem radd_zeros {s t : Bool} {mode : Int} : radd (sgn s) (sgn t) mode = (if s = t then sgn s else sgn (decide (mode = 4)), 0) := by
  obtain ⟨a1, a2, a3⟩ := cls_sgn s
  obtain ⟨b1, b2, b3⟩ := cls_sgn t
  unfold radd
  rw [a1, b1, if_neg (by omega), if_neg (by omega), if_neg (by omega), if_neg (by omega), a2, a3, b2, b3, rsum_zeros]
end Go.Proofs.Ytgobclmihppopab
