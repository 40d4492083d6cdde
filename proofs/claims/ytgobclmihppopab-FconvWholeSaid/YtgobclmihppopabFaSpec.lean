/- fadd: what its calls keep. -/
import Derived.Test.YtgobclmihppopabFaTwo
namespace Go.Proofs.Ytgobclmihppopab
open Go.RowKit Go.Shelf

set_option maxRecDepth 100000 in
set_option maxHeartbeats 4000000 in
theorem fadd_add {a b : Nat} {mode : Int} {w : World} (ha : (a : Int) ≤ 18446744073709551615) (hb : (b : Int) ≤ 18446744073709551615) :
    Calls Try.prog 71 #[.int .u64 (a : Int), .int .u64 (b : Int), .int .i64 mode] w fun e W' => e = .returned (.tuple #[.int .u64 ((radd a b mode).1 : Int), .int .i64 ((radd a b mode).2 : Int)]) ∧ Below w.heap.size w W' := by
  have hA := fun u => pclass1 (w := u) ha
  have hB := fun u => pclass1 (w := u) hb
  have n1 := not_top (a := a) (by omega)
  have n2 := not_top (a := b) (by omega)
  have ca3 := cls_le a
  have cb3 := cls_le b
  have hf1 : cls a ≤ 1 → cls b ≤ 1 → b % 9223372036854775808 ≤ a % 9223372036854775808 → ∀ u, Calls Try.prog 93 #[.int .u64 (a : Int), .int .u64 (b : Int), .int .i64 mode] u fun e W' => e = .returned (.tuple #[.int .u64 ((radd a b mode).1 : Int), .int .i64 ((radd a b mode).2 : Int)]) ∧ Below u.heap.size u W' := by
    intro h1 h2 h3 u
    have h := fadd_fin (mode := mode) (w := u) ha hb (cls_fin.1 h1) (cls_fin.1 h2) h3
    have e : radd a b mode = rsum (neg6 a) (sig a) (xpo a) (neg6 b) (sig b) (xpo b) mode := by
      unfold radd
      rw [if_neg (by omega), if_neg (by omega), if_neg (by omega), if_neg (by omega)]
    rwa [← e] at h
  have hf2 : cls a ≤ 1 → cls b ≤ 1 → a % 9223372036854775808 ≤ b % 9223372036854775808 → ∀ u, Calls Try.prog 93 #[.int .u64 (b : Int), .int .u64 (a : Int), .int .i64 mode] u fun e W' => e = .returned (.tuple #[.int .u64 ((radd a b mode).1 : Int), .int .i64 ((radd a b mode).2 : Int)]) ∧ Below u.heap.size u W' := by
    intro h1 h2 h3 u
    have h := fadd_fin (mode := mode) (w := u) hb ha (cls_fin.1 h2) (cls_fin.1 h1) h3
    have e : radd a b mode = rsum (neg6 b) (sig b) (xpo b) (neg6 a) (sig a) (xpo a) mode := by
      unfold radd
      rw [if_neg (by omega), if_neg (by omega), if_neg (by omega), if_neg (by omega), rsum_comm]
    rwa [← e] at h
  obtain ⟨P, hP⟩ : ∃ P, P = radd a b mode := ⟨_, rfl⟩
  rw [← hP] at hf1 hf2 ⊢
  unfold radd at hP
  have hz1 : a % 9223372036854775808 ≤ 9223372036854775807 := by omega
  have hz2 : b % 9223372036854775808 ≤ 9223372036854775807 := by omega
  generalize a % 9223372036854775808 = z1 at *
  generalize b % 9223372036854775808 = z2 at *
  generalize cls a = ca at *
  generalize cls b = cb at *
  by_cases a3 : ca = 3
  · subst a3
    rw [if_pos (.inl rfl)] at hP
    subst hP
    clear n1 n2 hf1 hf2
    have cb0 : cb = 0 ∨ cb = 1 ∨ cb = 2 ∨ cb = 3 := by omega
    rcases cb0 with rfl | rfl | rfl | rfl
    all_goals
      go_enter Try.func71, Try.ntmps71
      go_wp2_with fail
      refine (hA _).mono ?_
      rintro e w1 ⟨rfl, rfl⟩
      clear hA
      go_wp2_with fail
      refine (hB _).mono ?_
      rintro e w1 ⟨rfl, rfl⟩
      clear hB
      go_wp2
      go_ret2
      exact ⟨rfl, Below.refl _ _⟩
  by_cases b3 : cb = 3
  · subst b3
    rw [if_pos (.inr rfl)] at hP
    subst hP
    clear n1 n2 hf1 hf2
    have ca0 : ca = 0 ∨ ca = 1 ∨ ca = 2 := by omega
    rcases ca0 with rfl | rfl | rfl
    all_goals
      go_enter Try.func71, Try.ntmps71
      go_wp2_with fail
      refine (hA _).mono ?_
      rintro e w1 ⟨rfl, rfl⟩
      clear hA
      go_wp2_with fail
      refine (hB _).mono ?_
      rintro e w1 ⟨rfl, rfl⟩
      clear hB
      go_wp2
      go_ret2
      exact ⟨rfl, Below.refl _ _⟩
  rw [if_neg (by omega)] at hP
  by_cases a2 : ca = 2
  · subst a2
    clear n1 n2 hf1 hf2
    by_cases b2 : cb = 2
    · subst b2
      by_cases hab : a = b
      · subst hab
        rw [if_neg (by simp), if_pos rfl] at hP
        subst hP
        have d1 : ((a : Int) != (a : Int)) = false := by simp
        go_enter Try.func71, Try.ntmps71
        go_wp2_with fail
        refine (hA _).mono ?_
        rintro e w1 ⟨rfl, rfl⟩
        clear hA
        go_wp2_with fail
        refine (hB _).mono ?_
        rintro e w1 ⟨rfl, rfl⟩
        clear hB
        go_wp2
        go_ret2
        exact ⟨rfl, Below.refl _ _⟩
      · rw [if_pos ⟨rfl, rfl, hab⟩] at hP
        subst hP
        have d0 : ((a : Int) == (b : Int)) = false := beq_eq_false_iff_ne.2 (by omega)
        have d1 : ((a : Int) != (b : Int)) = true := by rw [bne, d0]; rfl
        clear hab
        go_enter Try.func71, Try.ntmps71
        go_wp2_with fail
        refine (hA _).mono ?_
        rintro e w1 ⟨rfl, rfl⟩
        clear hA
        go_wp2_with fail
        refine (hB _).mono ?_
        rintro e w1 ⟨rfl, rfl⟩
        clear hB
        go_wp2
        go_ret2
        exact ⟨rfl, Below.refl _ _⟩
    · rw [if_neg (by omega), if_pos rfl] at hP
      subst hP
      have cb0 : cb = 0 ∨ cb = 1 := by omega
      rcases cb0 with rfl | rfl
      all_goals
        go_enter Try.func71, Try.ntmps71
        go_wp2_with fail
        refine (hA _).mono ?_
        rintro e w1 ⟨rfl, rfl⟩
        clear hA
        go_wp2_with fail
        refine (hB _).mono ?_
        rintro e w1 ⟨rfl, rfl⟩
        clear hB
        go_wp2
        go_ret2
        exact ⟨rfl, Below.refl _ _⟩
  by_cases b2 : cb = 2
  · subst b2
    rw [if_neg (by omega), if_neg (by omega), if_pos rfl] at hP
    subst hP
    clear n1 n2 hf1 hf2
    have ca0 : ca = 0 ∨ ca = 1 := by omega
    rcases ca0 with rfl | rfl
    all_goals
      go_enter Try.func71, Try.ntmps71
      go_wp2_with fail
      refine (hA _).mono ?_
      rintro e w1 ⟨rfl, rfl⟩
      clear hA
      go_wp2_with fail
      refine (hB _).mono ?_
      rintro e w1 ⟨rfl, rfl⟩
      clear hB
      go_wp2
      go_ret2
      exact ⟨rfl, Below.refl _ _⟩
  · clear hP
    have da3 : ((ca : Int) == 3) = false := beq_eq_false_iff_ne.2 (by omega)
    have db3 : ((cb : Int) == 3) = false := beq_eq_false_iff_ne.2 (by omega)
    have da2 : ((ca : Int) == 2) = false := beq_eq_false_iff_ne.2 (by omega)
    have db2 : ((cb : Int) == 2) = false := beq_eq_false_iff_ne.2 (by omega)
    replace hf1 := hf1 (by omega) (by omega)
    replace hf2 := hf2 (by omega) (by omega)
    obtain ⟨y1, hy1⟩ : ∃ y1 : Int, (z1 : Int) = y1 := ⟨_, rfl⟩
    obtain ⟨y2, hy2⟩ : ∃ y2 : Int, (z2 : Int) = y2 := ⟨_, rfl⟩
    have y1l : y1 ≤ 9223372036854775807 := by omega
    have y2l : y2 ≤ 9223372036854775807 := by omega
    have y1g : 0 ≤ y1 := by omega
    have y2g : 0 ≤ y2 := by omega
    rw [hy1] at n1
    rw [hy2] at n2
    by_cases hlt : z1 < z2
    · have d1 : decide (y1 < y2) = true := decide_eq_true (by omega)
      replace hf2 := hf2 (by omega)
      clear hy1 hy2 hf1 hlt a3 b3 a2 b2 hz1 hz2 ca3 cb3
      go_enter Try.func71, Try.ntmps71
      go_wp2_with fail
      refine (hA _).mono ?_
      rintro e w1 ⟨rfl, rfl⟩
      clear hA
      go_wp2_with fail
      refine (hB _).mono ?_
      rintro e w1 ⟨rfl, rfl⟩
      clear hB
      go_wp2_with fail
      refine (hf2 _).mono ?_
      rintro e w1 ⟨rfl, b1⟩
      go_wp2
      go_ret2
      exact ⟨rfl, b1⟩
    · have d1 : decide (y1 < y2) = false := decide_eq_false (by omega)
      replace hf1 := hf1 (by omega)
      clear hy1 hy2 hf2 hlt a3 b3 a2 b2 hz1 hz2 ca3 cb3
      go_enter Try.func71, Try.ntmps71
      go_wp2_with fail
      refine (hA _).mono ?_
      rintro e w1 ⟨rfl, rfl⟩
      clear hA
      go_wp2_with fail
      refine (hB _).mono ?_
      rintro e w1 ⟨rfl, rfl⟩
      clear hB
      go_wp2_with fail
      refine (hf1 _).mono ?_
      rintro e w1 ⟨rfl, b1⟩
      go_wp2
      go_ret2
      exact ⟨rfl, b1⟩
theorem xor_top {b : Nat} (hb : b < 18446744073709551616) : bits .xor .u64 (b : Int) 9223372036854775808 = (flip b : Int) :=
  bits_xor_u64_nat b 9223372036854775808 hb (by omega)
theorem fadd_sub {a b : Nat} {mode : Int} {w : World} (ha : (a : Int) ≤ 18446744073709551615) (hb : (b : Int) ≤ 18446744073709551615) :
    Calls Try.prog 72 #[.int .u64 (a : Int), .int .u64 (b : Int), .int .i64 mode] w fun e W' => e = .returned (.tuple #[.int .u64 ((rsubt a b mode).1 : Int), .int .i64 ((rsubt a b mode).2 : Int)]) ∧ Below w.heap.size w W' := by
  obtain ⟨f1, _, _, _⟩ := flip_facts (b := b) (by omega)
  have hx := xor_top (b := b) (by omega)
  have e : rsubt a b mode = radd a (flip b) mode := by
    unfold rsubt
    split
    · rename_i h
      unfold radd
      rw [(flip_told (b := b) (by omega)).1, if_pos (.inr h)]
    · rfl
  rw [e]
  have hf : (flip b : Int) ≤ 18446744073709551615 := by omega
  have h := fadd_add (mode := mode) (w := w) ha hf
  clear e f1
  generalize radd a (flip b) mode = P at *
  generalize flip b = c at *
  go_enter Try.func72, Try.ntmps72
  go_wp2_with fail
  refine h.mono ?_
  rintro e w1 ⟨rfl, b1⟩
  go_wp2
  go_ret2
  exact ⟨rfl, b1⟩
end Go.Proofs.Ytgobclmihppopab
