/- ffma: what its calls keep. -/
import Derived.Test.YtgobclmihppopabFfSum
namespace Go.Proofs.Ytgobclmihppopab
open Go.RowKit Go.Shelf

theorem prod_room {x y : Nat} (hx : x < 9007199254740992) (hy : y < 9007199254740992) : mulHi x y < 9223372036854775808 ∧ mulLo x y < 18446744073709551616 ∧ mulHi x y * 18446744073709551616 + mulLo x y < 2 ^ 106 := by
  have h1 : x * y < 9007199254740992 * 9007199254740992 := Nat.mul_lt_mul'' hx hy
  have h2 : (9007199254740992 : Nat) * 9007199254740992 = 2 ^ 106 := by decide
  refine ⟨Nat.div_lt_of_lt_mul (Nat.lt_of_lt_of_le h1 (by decide)), Nat.mod_lt _ (by decide), ?_⟩
  rw [mul_words, ← h2]
  exact h1
/-- what the three calls keep where all is finite -/
def Fin3 (a b c : Nat) (mode : Int) (P : Nat × Nat) : Prop :=
  ∃ (s sc : Bool) (H L m : Nat) (z xc : Int),
    (∀ u : World, Calls Try.prog 55 #[.int .u64 (a : Int), .int .u64 (b : Int)] u fun e W' => e = .returned (.agg #[.bool s, .int .u64 (H : Int), .int .u64 (L : Int), .int .i64 z]) ∧ Below u.heap.size u W') ∧
    (∀ u : World, Calls Try.prog 56 #[.int .u64 (c : Int)] u fun e W' => e = .returned (.agg #[.bool sc, .int .u64 0, .int .u64 (m : Int), .int .i64 xc]) ∧ Below u.heap.size u W') ∧
    (∀ u : World, Calls Try.prog 54 #[.agg #[.bool s, .int .u64 (H : Int), .int .u64 (L : Int), .int .i64 z], .agg #[.bool sc, .int .u64 0, .int .u64 (m : Int), .int .i64 xc], .int .i64 mode] u fun e W' => e = .returned (.tuple #[.int .u64 (P.1 : Int), .int .i64 (P.2 : Int)]) ∧ Below u.heap.size u W')
theorem fin3 {a b c : Nat} {mode : Int} (ha : (a : Int) ≤ 18446744073709551615) (hb : (b : Int) ≤ 18446744073709551615) (hc : (c : Int) ≤ 18446744073709551615) (h1 : cls a ≤ 1) (h2 : cls b ≤ 1) (h3 : cls c ≤ 1) : Fin3 a b c mode (rfma a b c mode) := by
  have fa := cls_fin.1 h1
  have fb := cls_fin.1 h2
  have fc := cls_fin.1 h3
  have sa := (sig_fits fa).1.2.1
  have sb := (sig_fits fb).1.2.1
  have sc := (sig_fits fc).1.2.1
  obtain ⟨x1, x2⟩ := xpo_range06 a
  obtain ⟨x3, x4⟩ := xpo_range06 b
  obtain ⟨x5, x6⟩ := xpo_range06 c
  obtain ⟨p1, p2, p3⟩ := prod_room (x := sig a) (y := sig b) (by omega) (by omega)
  refine ⟨neg6 a != neg6 b, neg6 c, mulHi (sig a) (sig b), mulLo (sig a) (sig b), sig c, xpo a + xpo b, xpo c, fun u => ff_multiply ha hb fa fb, fun u => ff_widen hc fc, fun u => ?_⟩
  have h := ff_add (s := neg6 a != neg6 b) (t := neg6 c) (h := mulHi (sig a) (sig b)) (l := mulLo (sig a) (sig b)) (h' := 0) (l' := sig c) (x := xpo a + xpo b) (y := xpo c) (mode := mode) (w := u) p1 p2 (by decide) (by omega) p3
    (by rw [Nat.zero_mul, Nat.zero_add]; exact Nat.lt_of_lt_of_le (show sig c < 9007199254740992 by omega) (by decide)) (by omega) (by omega) (by omega) (by omega)
  rw [mul_words, Nat.zero_mul, Nat.zero_add, show ((0 : Nat) : Int) = 0 from rfl] at h
  have e : rfma a b c mode = rsum (neg6 a != neg6 b) (sig a * sig b) (xpo a + xpo b) (neg6 c) (sig c) (xpo c) mode := by
    unfold rfma
    rw [if_neg (by omega), if_neg (by omega), if_neg (by omega), if_neg (by omega), if_neg (by omega)]
  rw [e]
  exact h
set_option maxRecDepth 100000 in
set_option maxHeartbeats 16000000 in
theorem ffma_fma {a b c : Nat} {mode : Int} {w : World} (ha : (a : Int) ≤ 18446744073709551615) (hb : (b : Int) ≤ 18446744073709551615) (hc : (c : Int) ≤ 18446744073709551615) :
    Calls Try.prog 18 #[.int .u64 (a : Int), .int .u64 (b : Int), .int .u64 (c : Int), .int .i64 mode] w fun e W' => e = .returned (.tuple #[.int .u64 ((rfma a b c mode).1 : Int), .int .i64 ((rfma a b c mode).2 : Int)]) ∧ Below w.heap.size w W' := by
  have hA := fun u => pclass1 (w := u) ha
  have hB := fun u => pclass1 (w := u) hb
  have hC := fun u => pclass1 (w := u) hc
  obtain ⟨X, hx, hX, hn⟩ := xor_sign (a := a) (b := b) (by omega) (by omega)
  have hX' : (X : Int) ≤ 18446744073709551615 := by omega
  clear hX
  have hI := fun u => pinf1 (neg6 a != neg6 b) u
  have ca3 := cls_le a
  have cb3 := cls_le b
  have cc3 := cls_le c
  have HF : Hid (cls a ≤ 1 → cls b ≤ 1 → cls c ≤ 1 → Fin3 a b c mode (rfma a b c mode)) := Lib.hid fun h1 h2 h3 => fin3 ha hb hc h1 h2 h3
  have hib : ∀ s, (infB s : Int) ≤ 18446744073709551615 := by intro s; cases s <;> decide
  have hI2 := hib (neg6 a != neg6 b)
  clear hib
  obtain ⟨P, hP⟩ : ∃ P, P = rfma a b c mode := ⟨_, rfl⟩
  rw [← hP] at HF ⊢
  unfold rfma at hP
  generalize rsum (neg6 a != neg6 b) (sig a * sig b) (xpo a + xpo b) (neg6 c) (sig c) (xpo c) mode = R at *
  generalize (neg6 a != neg6 b) = s at *
  obtain ⟨I, hIB⟩ : ∃ I, infB s = I := ⟨_, rfl⟩
  rw [hIB] at hI hI2 hP
  clear hIB
  generalize cls a = ca at *
  generalize cls b = cb at *
  generalize cls c = cc at *
  have ca4 : ca = 0 ∨ ca = 1 ∨ ca = 2 ∨ ca = 3 := by omega
  have cb4 : cb = 0 ∨ cb = 1 ∨ cb = 2 ∨ cb = 3 := by omega
  have cc4 : cc = 0 ∨ cc = 1 ∨ cc = 2 ∨ cc = 3 := by omega
  clear ca3 cb3 cc3
  by_cases hf : ca ≤ 1 ∧ cb ≤ 1 ∧ cc ≤ 1
  · obtain ⟨s2, sc, H, L, m, z, xc, hm, hw, hs⟩ := HF.out hf.1 hf.2.1 hf.2.2
    have ca5 : ca = 0 ∨ ca = 1 := by omega
    have cb5 : cb = 0 ∨ cb = 1 := by omega
    have cc5 : cc = 0 ∨ cc = 1 := by omega
    clear hP HF hf ca4 cb4 cc4
    rcases ca5 with rfl | rfl <;> rcases cb5 with rfl | rfl <;> rcases cc5 with rfl | rfl
    all_goals
      go_enter Try.func18, Try.ntmps18
      go_wp2_with fail
      refine (hA _).mono ?_
      rintro e w1 ⟨rfl, rfl⟩
      clear hA
      go_wp2_with fail
      refine (hB _).mono ?_
      rintro e w1 ⟨rfl, rfl⟩
      clear hB
      go_wp2_with fail
      refine (hC _).mono ?_
      rintro e w1 ⟨rfl, rfl⟩
      clear hC
      go_wp2_with fail
      refine (hI _).mono ?_
      rintro e w1 ⟨rfl, rfl⟩
      go_wp2_with fail
      refine (hm _).mono ?_
      rintro e w1 ⟨rfl, b1⟩
      clear hm
      go_wp2_with fail
      refine (hw _).mono ?_
      rintro e w2 ⟨rfl, b2⟩
      clear hw
      replace b1 := below_both b1 b2
      clear b2
      go_wp2_with fail
      refine (hs _).mono ?_
      rintro e w3 ⟨rfl, b2⟩
      replace b1 := below_both b1 b2
      go_wp2
      go_ret2
      exact ⟨rfl, b1⟩
  clear HF
  by_cases hi : (ca = 2 ∧ cb = 1 ∨ ca = 1 ∧ cb = 2 ∨ ca = 2 ∧ cb = 2) ∧ cc = 2
  · obtain ⟨hi, rfl⟩ := hi
    by_cases hci : c = I
    · have hP2 : P = (I, 0) := by
        rw [hP, if_neg (by omega), if_neg (by omega), if_neg (by omega), if_pos (by omega), if_neg (fun h => h.2 hci)]
      subst hP2
      subst hci
      have d0 : ((c : Int) != (c : Int)) = false := by simp
      clear hP hf ca4 cb4 cc4
      rcases hi with ⟨rfl, rfl⟩ | ⟨rfl, rfl⟩ | ⟨rfl, rfl⟩
      all_goals
        go_enter Try.func18, Try.ntmps18
        go_wp2_with fail
        refine (hA _).mono ?_
        rintro e w1 ⟨rfl, rfl⟩
        clear hA
        go_wp2_with fail
        refine (hB _).mono ?_
        rintro e w1 ⟨rfl, rfl⟩
        clear hB
        go_wp2_with fail
        refine (hC _).mono ?_
        rintro e w1 ⟨rfl, rfl⟩
        clear hC
        go_wp2_with fail
        refine (hI _).mono ?_
        rintro e w1 ⟨rfl, rfl⟩
        go_wp2
        go_ret2
        exact ⟨rfl, Below.refl _ _⟩
    · have hP2 : P = (9221120237041090560, 1) := by
        rw [hP, if_neg (by omega), if_neg (by omega), if_neg (by omega), if_pos (by omega), if_pos ⟨rfl, hci⟩]
      subst hP2
      have d1 : ((I : Int) == (c : Int)) = false := beq_eq_false_iff_ne.2 (fun h => hci (by omega))
      have d0 : ((I : Int) != (c : Int)) = true := by rw [bne, d1]; rfl
      clear hP hf ca4 cb4 cc4 hci
      rcases hi with ⟨rfl, rfl⟩ | ⟨rfl, rfl⟩ | ⟨rfl, rfl⟩
      all_goals
        go_enter Try.func18, Try.ntmps18
        go_wp2_with fail
        refine (hA _).mono ?_
        rintro e w1 ⟨rfl, rfl⟩
        clear hA
        go_wp2_with fail
        refine (hB _).mono ?_
        rintro e w1 ⟨rfl, rfl⟩
        clear hB
        go_wp2_with fail
        refine (hC _).mono ?_
        rintro e w1 ⟨rfl, rfl⟩
        clear hC
        go_wp2_with fail
        refine (hI _).mono ?_
        rintro e w1 ⟨rfl, rfl⟩
        go_wp2
        go_ret2
        exact ⟨rfl, Below.refl _ _⟩
  rcases ca4 with rfl | rfl | rfl | rfl <;> rcases cb4 with rfl | rfl | rfl | rfl <;> rcases cc4 with rfl | rfl | rfl | rfl <;> first | exact absurd (by decide) hf | exact absurd (by decide) hi | (clear hf hi; simp at hP; subst hP)
  all_goals
    go_enter Try.func18, Try.ntmps18
    go_wp2_with fail
    refine (hA _).mono ?_
    rintro e w1 ⟨rfl, rfl⟩
    clear hA
    go_wp2_with fail
    refine (hB _).mono ?_
    rintro e w1 ⟨rfl, rfl⟩
    clear hB
    go_wp2_with fail
    refine (hC _).mono ?_
    rintro e w1 ⟨rfl, rfl⟩
    clear hC
    go_wp2_with fail
    refine (hI _).mono ?_
    rintro e w1 ⟨rfl, rfl⟩
    go_wp2
    go_ret2
    exact ⟨rfl, Below.refl _ _⟩
end Go.Proofs.Ytgobclmihppopab
