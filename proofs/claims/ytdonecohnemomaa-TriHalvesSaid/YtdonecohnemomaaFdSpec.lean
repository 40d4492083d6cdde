/- fdiv: what its calls keep. -/
import Derived.Test.YtdonecohnemomaaPaOne
import Derived.Test.YtdonecohnemomaaFdNum
import Derived.Test.YtdonecohnemomaaFdOwn
import Derived.Test.YtdonecohnemomaaFmSpec
import Derived.Test.YtdonecohnemomaaDiv64
namespace Go.Proofs.Ytdonecohnemomaa
open Go.RowKit Go.Shelf

theorem shifted {m u k : Nat} (h0 : 0 < m) (hu : nbits m + u = k + 1) : 2 ^ k ≤ m * 2 ^ u ∧ m * 2 ^ u < 2 ^ (k + 1) := by
  obtain ⟨b1, b2, b3⟩ := nbits_bounds (Nat.ne_of_gt h0)
  have hp : 0 < 2 ^ u := Nat.two_pow_pos u
  have h1 := Nat.mul_le_mul_right (2 ^ u) b2
  have h2 := Nat.mul_lt_mul_of_pos_right b3 hp
  rw [← Nat.pow_add] at h1 h2
  rw [show nbits m - 1 + u = k by omega] at h1
  rw [hu] at h2
  exact ⟨h1, h2⟩
set_option maxRecDepth 100000 in
set_option maxHeartbeats 4000000 in
theorem fdiv_fin {a b : Nat} {mode : Int} {w : World} (ha : (a : Int) ≤ 18446744073709551615) (hb : (b : Int) ≤ 18446744073709551615) (ca : cls a = 1) (cb : cls b = 1) :
    Calls Try.prog 110 #[.int .u64 (a : Int), .int .u64 (b : Int), .int .i64 mode] w fun e W' => e = .returned (.tuple #[.int .u64 ((rdiv6 a b mode).1 : Int), .int .i64 ((rdiv6 a b mode).2 : Int)]) ∧ Below w.heap.size w W' := by
  have fa : fe a ≠ 2047 := cls_fin.1 (by omega)
  have fb : fe b ≠ 2047 := cls_fin.1 (by omega)
  have hA := psplit_fin1 (w := w) ha fa
  have hB := psplit_fin1 (w := w) hb fb
  obtain ⟨x1, x2⟩ := xpo_range06 a
  obtain ⟨x3, x4⟩ := xpo_range06 b
  have sa := (sig_fits fa).1.2.1
  have sb := (sig_fits fb).1.2.1
  have pa := sig_pos ca
  have pb := sig_pos cb
  obtain ⟨P, hP⟩ : ∃ P, P = rdiv6 a b mode := ⟨_, rfl⟩
  have e : P = rnd (neg6 a != neg6 b) (sig a) (sig b) (xpo a - xpo b) mode := by
    rw [hP]
    unfold rdiv6
    rw [if_neg (by omega), if_neg (by omega), if_neg (by omega), if_neg (by omega), if_neg (by omega)]
  rw [← hP]
  clear hP ha hb fa fb ca cb
  generalize sig a = mA at *
  generalize sig b = mB at *
  generalize xpo a = xA at *
  generalize xpo b = xB at *
  generalize neg6 a = sA at *
  generalize neg6 b = sB at *
  obtain ⟨s, hs⟩ : ∃ s, (sA != sB) = s := ⟨_, rfl⟩
  rw [hs] at e
  have na : nbits mA ≤ 53 := nbits_le (show mA < 2 ^ 53 from sa)
  have nb : nbits mB ≤ 53 := nbits_le (show mB < 2 ^ 53 from sb)
  have na1 := (nbits_bounds (Nat.ne_of_gt pa)).1
  have nb1 := (nbits_bounds (Nat.ne_of_gt pb)).1
  have hlA := plz mA (by omega) w
  have hlB := plz mB (by omega) w
  obtain ⟨k, hk⟩ : ∃ k, k = 64 - nbits mA := ⟨_, rfl⟩
  obtain ⟨v, hv⟩ : ∃ v, v = 64 - nbits mB := ⟨_, rfl⟩
  obtain ⟨u, hu⟩ : ∃ u, k = u + 1 := ⟨k - 1, by omega⟩
  rw [← hk] at hlA
  rw [← hv] at hlB
  have z1 : (k : Int) - 1 = (u : Int) := by omega
  obtain ⟨A1, A2⟩ := shifted (m := mA) (u := u) (k := 62) pa (by omega)
  obtain ⟨B1, B2⟩ := shifted (m := mB) (u := v) (k := 63) pb (by omega)
  have s1 := shl_any mA u
  have s2 := shl_any mB v
  rw [Nat.mod_eq_of_lt (show mA * 2 ^ u < 18446744073709551616 from Nat.lt_trans A2 (by decide))] at s1
  rw [Nat.mod_eq_of_lt (show mB * 2 ^ v < 18446744073709551616 from B2)] at s2
  obtain ⟨E, hE⟩ : ∃ E, xA - (u : Int) - 64 - (xB - (v : Int)) = E := ⟨_, rfl⟩
  have hq := fd_quot (neg := s) (mA := mA) (mB := mB) (sA := u) (sB := v) (q := (mA * 2 ^ u * 18446744073709551616 + 0) / (mB * 2 ^ v)) (r := (mA * 2 ^ u * 18446744073709551616 + 0) % (mB * 2 ^ v)) (xA := xA) (xB := xB) (e := E) (mode := mode) pa pb
    (by rw [Nat.add_zero, Nat.mul_comm _ (mB * 2 ^ v), Nat.div_add_mod]) (Nat.mod_lt _ (by omega))
    (by
      rw [Nat.le_div_iff_mul_le (by omega)]
      have h1 : 4611686018427387904 * (mB * 2 ^ v) ≤ 4611686018427387904 * 18446744073709551616 := Nat.mul_le_mul_left _ (Nat.le_of_lt B2)
      have h2 : 4611686018427387904 * 18446744073709551616 ≤ mA * 2 ^ u * 18446744073709551616 := Nat.mul_le_mul_right _ A1
      omega) (by omega) (by omega) (by omega)
  have hu1 : (u : Int) ≤ 63 := by omega
  have hv1 : (v : Int) ≤ 64 := by omega
  have hk1 : (k : Int) ≤ 64 := by omega
  rw [← e] at hq
  generalize mA * 2 ^ u = X at *
  generalize mB * 2 ^ v = Y at *
  replace A1 : 4611686018427387904 ≤ X := A1
  replace A2 : X < 9223372036854775808 := A2
  replace B1 : 9223372036854775808 ≤ Y := B1
  replace B2 : Y < 18446744073709551616 := B2
  have hdv : ∀ w : World, Calls Try.prog 140 #[.int .u64 (X : Int), .int .u64 0, .int .u64 (Y : Int)] w fun e w' => e = .returned (.tuple #[.int .u64 (((X * 18446744073709551616 + 0) / Y : Nat) : Int), .int .u64 (((X * 18446744073709551616 + 0) % Y : Nat) : Int)]) ∧ w' = w :=
    fun w => (div64_rest X 0 Y B1 B2 (by omega) (by omega) (by omega) w).mono fun _ _ ⟨h, k⟩ => ⟨h, k.symm⟩
  have hQl : (X * 18446744073709551616 + 0) / Y < 18446744073709551616 := by
    rw [Nat.div_lt_iff_lt_mul (by omega)]
    have h1 := Nat.mul_le_mul_left 18446744073709551616 B1
    omega
  have hRl : (X * 18446744073709551616 + 0) % Y < 18446744073709551616 := Nat.lt_trans (Nat.mod_lt _ (by omega)) B2
  generalize (X * 18446744073709551616 + 0) / Y = Q at *
  generalize (X * 18446744073709551616 + 0) % Y = R at *
  obtain ⟨m, hm⟩ : ∃ m, ((R : Int) != 0) = m := ⟨_, rfl⟩
  have hmd : decide (R ≠ 0) = m := by
    rw [← hm]
    by_cases h0 : R = 0
    · subst h0; rfl
    · rw [decide_eq_true h0]
      have : ((R : Int) == 0) = false := beq_eq_false_iff_ne.2 (by omega)
      rw [bne, this]; rfl
  rw [hmd] at hq
  have hr := fun w => pround (neg := s) (more := m) (hi := 0) (lo := Q) (exp := E) (mode := mode) (w := w) (by omega) (by omega) (by omega) (by omega)
  rw [← hq] at hr
  have hXl : (X : Int) ≤ 18446744073709551615 := by omega
  have hYl : (Y : Int) ≤ 18446744073709551615 := by omega
  have hQl' : (Q : Int) ≤ 18446744073709551615 := by omega
  have hRl' : (R : Int) ≤ 18446744073709551615 := by omega
  have HDV := Lib.hid hdv
  clear hdv hmd hq e pa pb sa sb na nb na1 nb1 A1 A2 B1 B2 hk hv hu hQl hRl
  cases sA <;> cases sB
  all_goals
    subst hs
    go_enter Try.func110, Try.ntmps110
    go_wp2_with fail
    refine hA.mono ?_
    rintro e w1 ⟨rfl, rfl⟩
    clear hA
    go_wp2_with fail
    refine hB.mono ?_
    rintro e w1 ⟨rfl, rfl⟩
    clear hB
    go_wp2_with fail
    refine hlA.mono ?_
    rintro e w1 ⟨rfl, rfl⟩
    clear hlA
    go_wp2_with fail
    refine hlB.mono ?_
    rintro e w1 ⟨rfl, rfl⟩
    clear hlB
    go_wp2
    go_quiet ((go_at_call 140; exact Calls.quiet_of_same (HDV.out _)))
    go_wp2_with fail
    refine (hr _).mono ?_
    rintro e w1 ⟨rfl, b1⟩
    go_wp2
    go_ret2
    exact ⟨rfl, below_both (below_drewN _ _ _) b1⟩
set_option maxRecDepth 100000 in
set_option maxHeartbeats 4000000 in
theorem fdiv_div {a b : Nat} {mode : Int} {w : World} (ha : (a : Int) ≤ 18446744073709551615) (hb : (b : Int) ≤ 18446744073709551615) :
    Calls Try.prog 73 #[.int .u64 (a : Int), .int .u64 (b : Int), .int .i64 mode] w fun e W' => e = .returned (.tuple #[.int .u64 ((rdiv6 a b mode).1 : Int), .int .i64 ((rdiv6 a b mode).2 : Int)]) ∧ Below w.heap.size w W' := by
  have hA := fun u => pclass1 (w := u) ha
  have hB := fun u => pclass1 (w := u) hb
  obtain ⟨X, hx, hX, hn⟩ := xor_sign (a := a) (b := b) (by omega) (by omega)
  have hX' : (X : Int) ≤ 18446744073709551615 := by omega
  have hI := fun u => pinf1 (neg6 a != neg6 b) u
  have hZ := fun u => pzero1 (neg6 a != neg6 b) u
  have ca3 := cls_le a
  have cb3 := cls_le b
  have hF := fun h1 h2 u => fdiv_fin (mode := mode) (w := u) ha hb h1 h2
  obtain ⟨P, hP⟩ : ∃ P, P = rdiv6 a b mode := ⟨_, rfl⟩
  rw [← hP] at hF ⊢
  unfold rdiv6 at hP
  clear hX
  generalize (neg6 a != neg6 b) = s at *
  generalize rnd s (sig a) (sig b) (xpo a - xpo b) mode = R at *
  generalize cls a = ca at *
  generalize cls b = cb at *
  have ca4 : ca = 0 ∨ ca = 1 ∨ ca = 2 ∨ ca = 3 := by omega
  have cb4 : cb = 0 ∨ cb = 1 ∨ cb = 2 ∨ cb = 3 := by omega
  clear ca3 cb3
  rcases ca4 with rfl | rfl | rfl | rfl
  · rcases cb4 with rfl | rfl | rfl | rfl
    · skip
      rw [if_neg (by decide), if_pos (by decide)] at hP
      subst hP
      clear hF
      go_enter Try.func73, Try.ntmps73
      go_wp2_with fail
      refine (hA _).mono ?_
      rintro e w1 ⟨rfl, rfl⟩
      clear hA
      go_wp2_with fail
      refine (hB _).mono ?_
      rintro e w1 ⟨rfl, rfl⟩
      clear hB
      go_wp2
      go_ret2
      exact ⟨rfl, Below.refl _ _⟩
    · skip
      rw [if_neg (by decide), if_neg (by decide), if_neg (by decide), if_neg (by decide), if_pos (by decide)] at hP
      subst hP
      clear hF
      go_enter Try.func73, Try.ntmps73
      go_wp2_with fail
      refine (hA _).mono ?_
      rintro e w1 ⟨rfl, rfl⟩
      clear hA
      go_wp2_with fail
      refine (hB _).mono ?_
      rintro e w1 ⟨rfl, rfl⟩
      clear hB
      go_wp2_with fail
      refine (hZ _).mono ?_
      rintro e w1 ⟨rfl, rfl⟩
      go_wp2
      go_ret2
      exact ⟨rfl, Below.refl _ _⟩
    · skip
      rw [if_neg (by decide), if_neg (by decide), if_neg (by decide), if_neg (by decide), if_pos (by decide)] at hP
      subst hP
      clear hF
      go_enter Try.func73, Try.ntmps73
      go_wp2_with fail
      refine (hA _).mono ?_
      rintro e w1 ⟨rfl, rfl⟩
      clear hA
      go_wp2_with fail
      refine (hB _).mono ?_
      rintro e w1 ⟨rfl, rfl⟩
      clear hB
      go_wp2_with fail
      refine (hZ _).mono ?_
      rintro e w1 ⟨rfl, rfl⟩
      go_wp2
      go_ret2
      exact ⟨rfl, Below.refl _ _⟩
    · skip
      rw [if_pos (by decide)] at hP
      subst hP
      clear hF
      go_enter Try.func73, Try.ntmps73
      go_wp2_with fail
      refine (hA _).mono ?_
      rintro e w1 ⟨rfl, rfl⟩
      clear hA
      go_wp2_with fail
      refine (hB _).mono ?_
      rintro e w1 ⟨rfl, rfl⟩
      clear hB
      go_wp2
      go_ret2
      exact ⟨rfl, Below.refl _ _⟩
  · rcases cb4 with rfl | rfl | rfl | rfl
    · skip
      rw [if_neg (by decide), if_neg (by decide), if_neg (by decide), if_pos (by decide)] at hP
      subst hP
      clear hF
      go_enter Try.func73, Try.ntmps73
      go_wp2_with fail
      refine (hA _).mono ?_
      rintro e w1 ⟨rfl, rfl⟩
      clear hA
      go_wp2_with fail
      refine (hB _).mono ?_
      rintro e w1 ⟨rfl, rfl⟩
      clear hB
      go_wp2_with fail
      refine (hI _).mono ?_
      rintro e w1 ⟨rfl, rfl⟩
      go_wp2
      go_ret2
      exact ⟨rfl, Below.refl _ _⟩
    · skip
      clear hP
      replace hF := hF rfl rfl
      go_enter Try.func73, Try.ntmps73
      go_wp2_with fail
      refine (hA _).mono ?_
      rintro e w1 ⟨rfl, rfl⟩
      clear hA
      go_wp2_with fail
      refine (hB _).mono ?_
      rintro e w1 ⟨rfl, rfl⟩
      clear hB
      go_wp2_with fail
      refine (hF _).mono ?_
      rintro e w1 ⟨rfl, b1⟩
      go_wp2
      go_ret2
      exact ⟨rfl, b1⟩
    · skip
      rw [if_neg (by decide), if_neg (by decide), if_neg (by decide), if_neg (by decide), if_pos (by decide)] at hP
      subst hP
      clear hF
      go_enter Try.func73, Try.ntmps73
      go_wp2_with fail
      refine (hA _).mono ?_
      rintro e w1 ⟨rfl, rfl⟩
      clear hA
      go_wp2_with fail
      refine (hB _).mono ?_
      rintro e w1 ⟨rfl, rfl⟩
      clear hB
      go_wp2_with fail
      refine (hZ _).mono ?_
      rintro e w1 ⟨rfl, rfl⟩
      go_wp2
      go_ret2
      exact ⟨rfl, Below.refl _ _⟩
    · skip
      rw [if_pos (by decide)] at hP
      subst hP
      clear hF
      go_enter Try.func73, Try.ntmps73
      go_wp2_with fail
      refine (hA _).mono ?_
      rintro e w1 ⟨rfl, rfl⟩
      clear hA
      go_wp2_with fail
      refine (hB _).mono ?_
      rintro e w1 ⟨rfl, rfl⟩
      clear hB
      go_wp2
      go_ret2
      exact ⟨rfl, Below.refl _ _⟩
  · rcases cb4 with rfl | rfl | rfl | rfl
    · skip
      rw [if_neg (by decide), if_neg (by decide), if_pos (by decide)] at hP
      subst hP
      clear hF
      go_enter Try.func73, Try.ntmps73
      go_wp2_with fail
      refine (hA _).mono ?_
      rintro e w1 ⟨rfl, rfl⟩
      clear hA
      go_wp2_with fail
      refine (hB _).mono ?_
      rintro e w1 ⟨rfl, rfl⟩
      clear hB
      go_wp2_with fail
      refine (hI _).mono ?_
      rintro e w1 ⟨rfl, rfl⟩
      go_wp2
      go_ret2
      exact ⟨rfl, Below.refl _ _⟩
    · skip
      rw [if_neg (by decide), if_neg (by decide), if_pos (by decide)] at hP
      subst hP
      clear hF
      go_enter Try.func73, Try.ntmps73
      go_wp2_with fail
      refine (hA _).mono ?_
      rintro e w1 ⟨rfl, rfl⟩
      clear hA
      go_wp2_with fail
      refine (hB _).mono ?_
      rintro e w1 ⟨rfl, rfl⟩
      clear hB
      go_wp2_with fail
      refine (hI _).mono ?_
      rintro e w1 ⟨rfl, rfl⟩
      go_wp2
      go_ret2
      exact ⟨rfl, Below.refl _ _⟩
    · skip
      rw [if_neg (by decide), if_pos (by decide)] at hP
      subst hP
      clear hF
      go_enter Try.func73, Try.ntmps73
      go_wp2_with fail
      refine (hA _).mono ?_
      rintro e w1 ⟨rfl, rfl⟩
      clear hA
      go_wp2_with fail
      refine (hB _).mono ?_
      rintro e w1 ⟨rfl, rfl⟩
      clear hB
      go_wp2
      go_ret2
      exact ⟨rfl, Below.refl _ _⟩
    · skip
      rw [if_pos (by decide)] at hP
      subst hP
      clear hF
      go_enter Try.func73, Try.ntmps73
      go_wp2_with fail
      refine (hA _).mono ?_
      rintro e w1 ⟨rfl, rfl⟩
      clear hA
      go_wp2_with fail
      refine (hB _).mono ?_
      rintro e w1 ⟨rfl, rfl⟩
      clear hB
      go_wp2
      go_ret2
      exact ⟨rfl, Below.refl _ _⟩
  · rcases cb4 with rfl | rfl | rfl | rfl
    · skip
      rw [if_pos (by decide)] at hP
      subst hP
      clear hF
      go_enter Try.func73, Try.ntmps73
      go_wp2_with fail
      refine (hA _).mono ?_
      rintro e w1 ⟨rfl, rfl⟩
      clear hA
      go_wp2_with fail
      refine (hB _).mono ?_
      rintro e w1 ⟨rfl, rfl⟩
      clear hB
      go_wp2
      go_ret2
      exact ⟨rfl, Below.refl _ _⟩
    · skip
      rw [if_pos (by decide)] at hP
      subst hP
      clear hF
      go_enter Try.func73, Try.ntmps73
      go_wp2_with fail
      refine (hA _).mono ?_
      rintro e w1 ⟨rfl, rfl⟩
      clear hA
      go_wp2_with fail
      refine (hB _).mono ?_
      rintro e w1 ⟨rfl, rfl⟩
      clear hB
      go_wp2
      go_ret2
      exact ⟨rfl, Below.refl _ _⟩
    · skip
      rw [if_pos (by decide)] at hP
      subst hP
      clear hF
      go_enter Try.func73, Try.ntmps73
      go_wp2_with fail
      refine (hA _).mono ?_
      rintro e w1 ⟨rfl, rfl⟩
      clear hA
      go_wp2_with fail
      refine (hB _).mono ?_
      rintro e w1 ⟨rfl, rfl⟩
      clear hB
      go_wp2
      go_ret2
      exact ⟨rfl, Below.refl _ _⟩
    · skip
      rw [if_pos (by decide)] at hP
      subst hP
      clear hF
      go_enter Try.func73, Try.ntmps73
      go_wp2_with fail
      refine (hA _).mono ?_
      rintro e w1 ⟨rfl, rfl⟩
      clear hA
      go_wp2_with fail
      refine (hB _).mono ?_
      rintro e w1 ⟨rfl, rfl⟩
      clear hB
      go_wp2
      go_ret2
      exact ⟨rfl, Below.refl _ _⟩
def quotU (a b : Nat) : Nat := (rdiv6 a b 0).1
theorem quotU_lt (a b : Nat) : quotU a b ≤ 18446744073709551615 := by
  unfold quotU rdiv6
  split
  · decide
  · split
    · decide
    · split
      · unfold infB sgn; split <;> decide
      · split
        · unfold infB sgn; split <;> decide
        · split
          · exact sgn_lt _
          · rename_i h1 h2 h3 h4 h5
            have ca : cls a = 1 := by have := cls_le a; omega
            have cb : cls b = 1 := by have := cls_le b; omega
            have sa : 0 < sig a := Nat.pos_of_ne_zero fun e => by have := (cls_zero_iff (by omega : cls a ≤ 1)).2 e; omega
            have sb : 0 < sig b := Nat.pos_of_ne_zero fun e => by have := (cls_zero_iff (by omega : cls b ≤ 1)).2 e; omega
            exact rnd_lt _ sa sb _ _
end Go.Proofs.Ytdonecohnemomaa
