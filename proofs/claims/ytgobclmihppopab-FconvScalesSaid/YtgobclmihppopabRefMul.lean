/- vernierref06.Mul: the exact product, rounded. -/
import Derived.Test.YtgobclmihppopabRefSum
namespace Go.Proofs.Ytgobclmihppopab
open Go.RowKit Go.Shelf

theorem sig_pos {a : Nat} (h : cls a = 1) : 0 < sig a := by
  unfold cls at h
  unfold sig
  split at h
  · split at h <;> omega
  · rename_i h1
    by_cases h2 : fe a = 0
    · rw [if_pos h2]
      by_cases h3 : ff a = 0
      · rw [if_pos ⟨h2, h3⟩] at h; omega
      · omega
    · rw [if_neg h2]; omega
/-- the product -/
def rmul (a b : Nat) (mode : Int) : Nat × Nat :=
  if cls a = 3 ∨ cls b = 3 then (9221120237041090560, 0)
  else if cls a = 2 ∧ cls b = 0 ∨ cls a = 0 ∧ cls b = 2 then (9221120237041090560, 1)
  else if cls a = 2 ∨ cls b = 2 then (infB (neg6 a != neg6 b), 0)
  else if cls a = 0 ∨ cls b = 0 then (sgn (neg6 a != neg6 b), 0)
  else rnd (neg6 a != neg6 b) (sig a * sig b) 1 (xpo a + xpo b) mode
set_option maxRecDepth 100000 in
set_option maxHeartbeats 16000000 in
theorem mul6 {a b : Nat} {mode : Int} {w : World} (ha : (a : Int) ≤ 18446744073709551615) (hb : (b : Int) ≤ 18446744073709551615) :
    Calls Try.prog 15 #[.int .u64 (a : Int), .int .u64 (b : Int), .int .i64 mode] w fun e W' => e = .returned (.tuple #[.int .u64 ((rmul a b mode).1 : Int), .int .i64 ((rmul a b mode).2 : Int)]) ∧ Below w.heap.size w W' := by
  obtain ⟨P, hP⟩ : ∃ P, P = rmul a b mode := ⟨_, rfl⟩
  rw [← hP]
  unfold rmul at hP
  have hA := fun w => class6 (W := w) ha
  have hB := fun w => class6 (W := w) hb
  have hx : cls a = 0 ∨ cls a = 1 ∨ cls a = 2 ∨ cls a = 3 := by have := cls_le a; omega
  have hy : cls b = 0 ∨ cls b = 1 ∨ cls b = 2 ∨ cls b = 3 := by have := cls_le b; omega
  rcases hx with hx | hx | hx | hx
  · rcases hy with hy | hy | hy | hy
    · skip
      rw [hx] at hA
      rw [hy] at hB
      simp only [hx, hy, reduceIte, true_or, or_true, or_self, true_and, and_true, and_self, and_false, false_and, or_false, false_or, show ¬ (0 : Nat) = 2 from by decide, show ¬ (0 : Nat) = 3 from by decide] at hP
      subst hP
      clear hx hy
      go_enter Try.func15, Try.ntmps15
      go_wp2_with fail
      refine (hA _).mono ?_
      rintro e w1 ⟨rfl, rfl⟩
      go_wp2_with fail
      refine (hB _).mono ?_
      rintro e w2 ⟨rfl, rfl⟩
      go_wp2_with fail
      refine (zero6 _ _).mono ?_
      rintro e w3 ⟨rfl, rfl⟩
      go_wp2
      go_ret2
      exact ⟨rfl, Below.refl _ _⟩
    · skip
      rw [hx] at hA
      rw [hy] at hB
      simp only [hx, hy, reduceIte, true_or, or_true, or_self, true_and, and_true, and_self, and_false, false_and, or_false, false_or, show ¬ (0 : Nat) = 2 from by decide, show ¬ (0 : Nat) = 3 from by decide, show ¬ (1 : Nat) = 0 from by decide, show ¬ (1 : Nat) = 2 from by decide, show ¬ (1 : Nat) = 3 from by decide] at hP
      subst hP
      clear hx hy
      go_enter Try.func15, Try.ntmps15
      go_wp2_with fail
      refine (hA _).mono ?_
      rintro e w1 ⟨rfl, rfl⟩
      go_wp2_with fail
      refine (hB _).mono ?_
      rintro e w2 ⟨rfl, rfl⟩
      go_wp2_with fail
      refine (zero6 _ _).mono ?_
      rintro e w3 ⟨rfl, rfl⟩
      go_wp2
      go_ret2
      exact ⟨rfl, Below.refl _ _⟩
    · skip
      rw [hx] at hA
      rw [hy] at hB
      simp only [hx, hy, reduceIte, true_or, or_true, or_self, true_and, and_true, and_self, and_false, false_and, or_false, false_or, show ¬ (0 : Nat) = 2 from by decide, show ¬ (0 : Nat) = 3 from by decide, show ¬ (2 : Nat) = 0 from by decide, show ¬ (2 : Nat) = 3 from by decide] at hP
      subst hP
      clear hx hy
      go_enter Try.func15, Try.ntmps15
      go_wp2_with fail
      refine (hA _).mono ?_
      rintro e w1 ⟨rfl, rfl⟩
      go_wp2_with fail
      refine (hB _).mono ?_
      rintro e w2 ⟨rfl, rfl⟩
      go_wp2
      go_ret2
      exact ⟨rfl, Below.refl _ _⟩
    · skip
      rw [hx] at hA
      rw [hy] at hB
      simp only [hx, hy, reduceIte, true_or, or_true, or_self, true_and, and_true, and_self, and_false, false_and, or_false, false_or, show ¬ (0 : Nat) = 2 from by decide, show ¬ (0 : Nat) = 3 from by decide, show ¬ (3 : Nat) = 0 from by decide, show ¬ (3 : Nat) = 2 from by decide] at hP
      subst hP
      clear hx hy
      go_enter Try.func15, Try.ntmps15
      go_wp2_with fail
      refine (hA _).mono ?_
      rintro e w1 ⟨rfl, rfl⟩
      go_wp2_with fail
      refine (hB _).mono ?_
      rintro e w2 ⟨rfl, rfl⟩
      go_wp2
      go_ret2
      exact ⟨rfl, Below.refl _ _⟩
  · rcases hy with hy | hy | hy | hy
    · skip
      rw [hx] at hA
      rw [hy] at hB
      simp only [hx, hy, reduceIte, true_or, or_true, or_self, true_and, and_true, and_self, and_false, false_and, or_false, false_or, show ¬ (0 : Nat) = 2 from by decide, show ¬ (0 : Nat) = 3 from by decide, show ¬ (1 : Nat) = 0 from by decide, show ¬ (1 : Nat) = 2 from by decide, show ¬ (1 : Nat) = 3 from by decide] at hP
      subst hP
      clear hx hy
      go_enter Try.func15, Try.ntmps15
      go_wp2_with fail
      refine (hA _).mono ?_
      rintro e w1 ⟨rfl, rfl⟩
      go_wp2_with fail
      refine (hB _).mono ?_
      rintro e w2 ⟨rfl, rfl⟩
      go_wp2_with fail
      refine (zero6 _ _).mono ?_
      rintro e w3 ⟨rfl, rfl⟩
      go_wp2
      go_ret2
      exact ⟨rfl, Below.refl _ _⟩
    · skip
      rw [hx] at hA
      rw [hy] at hB
      simp only [hx, hy, reduceIte, true_or, or_true, or_self, true_and, and_true, and_self, and_false, false_and, or_false, false_or, show ¬ (1 : Nat) = 0 from by decide, show ¬ (1 : Nat) = 2 from by decide, show ¬ (1 : Nat) = 3 from by decide] at hP
      have sA := fun w => split6 (W := w) ha
      have sB := fun w => split6 (W := w) hb
      have ra := xpo_range06 a
      have rb := xpo_range06 b
      have la := sig_lt06 a
      have lb := sig_lt06 b
      have pa : 0 < sig a := sig_pos hx
      have pb : 0 < sig b := sig_pos hy
      have hnp : 0 < sig a * sig b := Nat.mul_pos pa pb
      have hP' : P = rnd (neg6 a != neg6 b) (sig a * sig b) 1 (xpo a + xpo b) mode := hP
      generalize hsa : sig a = ma at *
      generalize hsb : sig b = mb at *
      generalize hxa : xpo a = xa at *
      generalize hxb : xpo b = xb at *
      have HP := Lib.hid hP'
      have HLA := Lib.hid la
      have HLB := Lib.hid lb
      clear hP hP' la lb hsa hsb hxa hxb hx hy
      go_enter Try.func15, Try.ntmps15
      go_wp2_with fail
      refine (hA _).mono ?_
      rintro e w1 ⟨rfl, rfl⟩
      go_wp2_with fail
      refine (hB _).mono ?_
      rintro e w2 ⟨rfl, rfl⟩
      go_wp2_with fail
      refine (sA _).mono ?_
      rintro e w3 ⟨rfl, rfl⟩
      go_wp2_with fail
      refine (sB _).mono ?_
      rintro e w4 ⟨rfl, rfl⟩
      clear sA sB hA hB
      go_wp2_with fail
      refine (word6 HLA.out).mono ?_
      rintro e w5 ⟨v5, rfl, r5, b5⟩
      go_wp2_with fail
      refine (word6 HLB.out).mono ?_
      rintro e w6 ⟨v6, rfl, r6, b6⟩
      replace r5 := r5.behind b6
      replace b5 := below_both b5 b6
      clear b6
      go_wp2_with fail
      refine (rmul_num r5 r6 (by omega) (by omega)).mono ?_
      rintro e w7 ⟨v7, rfl, r7, b6⟩
      replace b5 := below_both b5 b6
      clear b6
      go_wp2_with fail
      refine (one6 _).mono ?_
      rintro e w8 ⟨v8, rfl, r8, b6⟩
      replace r7 := r7.behind b6
      replace b5 := below_both b5 b6
      clear b6
      go_wp2_with fail
      refine (rround_num (mode := mode) r7 r8 hnp (by decide) (by omega) (by omega) (by omega) (by omega) (by omega) (by omega)).mono ?_
      rintro e w9 ⟨rfl, b6⟩
      have hp := HP.out
      clear HP
      subst hp
      go_wp2
      go_ret2
      exact ⟨rfl, below_both b5 b6⟩
    · skip
      rw [hx] at hA
      rw [hy] at hB
      simp only [hx, hy, reduceIte, true_or, or_true, or_self, true_and, and_true, and_self, and_false, false_and, or_false, false_or, show ¬ (1 : Nat) = 0 from by decide, show ¬ (1 : Nat) = 2 from by decide, show ¬ (1 : Nat) = 3 from by decide, show ¬ (2 : Nat) = 0 from by decide, show ¬ (2 : Nat) = 3 from by decide] at hP
      subst hP
      clear hx hy
      go_enter Try.func15, Try.ntmps15
      go_wp2_with fail
      refine (hA _).mono ?_
      rintro e w1 ⟨rfl, rfl⟩
      go_wp2_with fail
      refine (hB _).mono ?_
      rintro e w2 ⟨rfl, rfl⟩
      go_wp2_with fail
      refine (inf6 _ _).mono ?_
      rintro e w3 ⟨rfl, rfl⟩
      go_wp2
      go_ret2
      exact ⟨rfl, Below.refl _ _⟩
    · skip
      rw [hx] at hA
      rw [hy] at hB
      simp only [hx, hy, reduceIte, true_or, or_true, or_self, true_and, and_true, and_self, and_false, false_and, or_false, false_or, show ¬ (1 : Nat) = 0 from by decide, show ¬ (1 : Nat) = 2 from by decide, show ¬ (1 : Nat) = 3 from by decide, show ¬ (3 : Nat) = 0 from by decide, show ¬ (3 : Nat) = 2 from by decide] at hP
      subst hP
      clear hx hy
      go_enter Try.func15, Try.ntmps15
      go_wp2_with fail
      refine (hA _).mono ?_
      rintro e w1 ⟨rfl, rfl⟩
      go_wp2_with fail
      refine (hB _).mono ?_
      rintro e w2 ⟨rfl, rfl⟩
      go_wp2
      go_ret2
      exact ⟨rfl, Below.refl _ _⟩
  · rcases hy with hy | hy | hy | hy
    · skip
      rw [hx] at hA
      rw [hy] at hB
      simp only [hx, hy, reduceIte, true_or, or_true, or_self, true_and, and_true, and_self, and_false, false_and, or_false, false_or, show ¬ (0 : Nat) = 2 from by decide, show ¬ (0 : Nat) = 3 from by decide, show ¬ (2 : Nat) = 0 from by decide, show ¬ (2 : Nat) = 3 from by decide] at hP
      subst hP
      clear hx hy
      go_enter Try.func15, Try.ntmps15
      go_wp2_with fail
      refine (hA _).mono ?_
      rintro e w1 ⟨rfl, rfl⟩
      go_wp2_with fail
      refine (hB _).mono ?_
      rintro e w2 ⟨rfl, rfl⟩
      go_wp2
      go_ret2
      exact ⟨rfl, Below.refl _ _⟩
    · skip
      rw [hx] at hA
      rw [hy] at hB
      simp only [hx, hy, reduceIte, true_or, or_true, or_self, true_and, and_true, and_self, and_false, false_and, or_false, false_or, show ¬ (1 : Nat) = 0 from by decide, show ¬ (1 : Nat) = 2 from by decide, show ¬ (1 : Nat) = 3 from by decide, show ¬ (2 : Nat) = 0 from by decide, show ¬ (2 : Nat) = 3 from by decide] at hP
      subst hP
      clear hx hy
      go_enter Try.func15, Try.ntmps15
      go_wp2_with fail
      refine (hA _).mono ?_
      rintro e w1 ⟨rfl, rfl⟩
      go_wp2_with fail
      refine (hB _).mono ?_
      rintro e w2 ⟨rfl, rfl⟩
      go_wp2_with fail
      refine (inf6 _ _).mono ?_
      rintro e w3 ⟨rfl, rfl⟩
      go_wp2
      go_ret2
      exact ⟨rfl, Below.refl _ _⟩
    · skip
      rw [hx] at hA
      rw [hy] at hB
      simp only [hx, hy, reduceIte, true_or, or_true, or_self, true_and, and_true, and_self, and_false, false_and, or_false, false_or, show ¬ (2 : Nat) = 0 from by decide, show ¬ (2 : Nat) = 3 from by decide] at hP
      subst hP
      clear hx hy
      go_enter Try.func15, Try.ntmps15
      go_wp2_with fail
      refine (hA _).mono ?_
      rintro e w1 ⟨rfl, rfl⟩
      go_wp2_with fail
      refine (hB _).mono ?_
      rintro e w2 ⟨rfl, rfl⟩
      go_wp2_with fail
      refine (inf6 _ _).mono ?_
      rintro e w3 ⟨rfl, rfl⟩
      go_wp2
      go_ret2
      exact ⟨rfl, Below.refl _ _⟩
    · skip
      rw [hx] at hA
      rw [hy] at hB
      simp only [hx, hy, reduceIte, true_or, or_true, or_self, true_and, and_true, and_self, and_false, false_and, or_false, false_or, show ¬ (2 : Nat) = 0 from by decide, show ¬ (2 : Nat) = 3 from by decide, show ¬ (3 : Nat) = 0 from by decide, show ¬ (3 : Nat) = 2 from by decide] at hP
      subst hP
      clear hx hy
      go_enter Try.func15, Try.ntmps15
      go_wp2_with fail
      refine (hA _).mono ?_
      rintro e w1 ⟨rfl, rfl⟩
      go_wp2_with fail
      refine (hB _).mono ?_
      rintro e w2 ⟨rfl, rfl⟩
      go_wp2
      go_ret2
      exact ⟨rfl, Below.refl _ _⟩
  · rcases hy with hy | hy | hy | hy
    · skip
      rw [hx] at hA
      rw [hy] at hB
      simp only [hx, hy, reduceIte, true_or, or_true, or_self, true_and, and_true, and_self, and_false, false_and, or_false, false_or, show ¬ (0 : Nat) = 2 from by decide, show ¬ (0 : Nat) = 3 from by decide, show ¬ (3 : Nat) = 0 from by decide, show ¬ (3 : Nat) = 2 from by decide] at hP
      subst hP
      clear hx hy
      go_enter Try.func15, Try.ntmps15
      go_wp2_with fail
      refine (hA _).mono ?_
      rintro e w1 ⟨rfl, rfl⟩
      go_wp2_with fail
      refine (hB _).mono ?_
      rintro e w2 ⟨rfl, rfl⟩
      go_wp2
      go_ret2
      exact ⟨rfl, Below.refl _ _⟩
    · skip
      rw [hx] at hA
      rw [hy] at hB
      simp only [hx, hy, reduceIte, true_or, or_true, or_self, true_and, and_true, and_self, and_false, false_and, or_false, false_or, show ¬ (1 : Nat) = 0 from by decide, show ¬ (1 : Nat) = 2 from by decide, show ¬ (1 : Nat) = 3 from by decide, show ¬ (3 : Nat) = 0 from by decide, show ¬ (3 : Nat) = 2 from by decide] at hP
      subst hP
      clear hx hy
      go_enter Try.func15, Try.ntmps15
      go_wp2_with fail
      refine (hA _).mono ?_
      rintro e w1 ⟨rfl, rfl⟩
      go_wp2_with fail
      refine (hB _).mono ?_
      rintro e w2 ⟨rfl, rfl⟩
      go_wp2
      go_ret2
      exact ⟨rfl, Below.refl _ _⟩
    · skip
      rw [hx] at hA
      rw [hy] at hB
      simp only [hx, hy, reduceIte, true_or, or_true, or_self, true_and, and_true, and_self, and_false, false_and, or_false, false_or, show ¬ (2 : Nat) = 0 from by decide, show ¬ (2 : Nat) = 3 from by decide, show ¬ (3 : Nat) = 0 from by decide, show ¬ (3 : Nat) = 2 from by decide] at hP
      subst hP
      clear hx hy
      go_enter Try.func15, Try.ntmps15
      go_wp2_with fail
      refine (hA _).mono ?_
      rintro e w1 ⟨rfl, rfl⟩
      go_wp2_with fail
      refine (hB _).mono ?_
      rintro e w2 ⟨rfl, rfl⟩
      go_wp2
      go_ret2
      exact ⟨rfl, Below.refl _ _⟩
    · skip
      rw [hx] at hA
      rw [hy] at hB
      simp only [hx, hy, reduceIte, true_or, or_true, or_self, true_and, and_true, and_self, and_false, false_and, or_false, false_or, show ¬ (3 : Nat) = 0 from by decide, show ¬ (3 : Nat) = 2 from by decide] at hP
      subst hP
      clear hx hy
      go_enter Try.func15, Try.ntmps15
      go_wp2_with fail
      refine (hA _).mono ?_
      rintro e w1 ⟨rfl, rfl⟩
      go_wp2_with fail
      refine (hB _).mono ?_
      rintro e w2 ⟨rfl, rfl⟩
      go_wp2
      go_ret2
      exact ⟨rfl, Below.refl _ _⟩
end Go.Proofs.Ytgobclmihppopab
