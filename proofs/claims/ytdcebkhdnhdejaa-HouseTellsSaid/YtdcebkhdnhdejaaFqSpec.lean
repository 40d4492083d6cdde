/- fsqrt: what its calls keep. -/
import Derived.Test.YtdcebkhdnhdejaaPaTwo
import Derived.Test.YtdcebkhdnhdejaaFqNum
import Derived.Test.YtdcebkhdnhdejaaDivMod
import Derived.Laws.Bits64
namespace Go.Proofs.Ytdcebkhdnhdejaa
open Go.RowKit Go.Shelf

theorem parity (X : Int) : bits .and .i64 X 1 = X % 2 := by
  have h1 : ((BitVec.ofInt 64 X).toNat : Int) = X % 18446744073709551616 := by
    rw [BitVec.toNat_ofInt]
    have h := Int.emod_nonneg X (show (2 : Int) ^ 64 ≠ 0 by decide)
    exact Int.toNat_of_nonneg h
  have h2 : (BitVec.ofInt 64 (1 : Int)).toNat = 1 := by decide
  show IntKind.i64.wrap ((BitVec.ofInt 64 X &&& BitVec.ofInt 64 1).toNat : Int) = _
  rw [BitVec.toNat_and, h2, Nat.and_one_is_mod, IntKind.wrap_i64]
  generalize (BitVec.ofInt 64 X).toNat = t at *
  omega
theorem num_pair (W : World) (x : Nat) (hx : x < 18446744073709551616) : Num (W.alloc (.cells #[.int .u64 0, .int .u64 x] 32)) (.slice (some ⟨W.heap.size, 0, none⟩) 2 2) (x * 18446744073709551616) 2 := by
  refine ⟨[0, x], ⟨W.heap.size, by simp, (Row.new W .u64 32 [0, x]).rd 2 (by simp)⟩, ?_, ?_, by simp⟩
  · intro y hy
    simp at hy
    omega
  · simp [val]
    exact Nat.mul_comm _ _
theorem len_pos64 (M : Nat) : decide (0 < (digs 18446744073709551616 M).length) = decide (M ≠ 0) := by
  by_cases h : M = 0
  · subst h
    rw [digs_zero]
    rfl
  · rw [digs_pos (by decide) h, decide_eq_true h]
    exact decide_eq_true (by simp)
theorem root_fin {m s G : Nat} {x y mode : Int} (hm : 0 < m) (hm2 : m < 9007199254740992) (hy : x - (s : Int) - 64 = 2 * y) (hs : 126 ≤ nbits m + (s + 64)) (h1 : G * G ≤ m * 2 ^ (s + 64)) (h2 : m * 2 ^ (s + 64) < (G + 1) * (G + 1))
    (hG : 18014398509481984 ≤ G) (y1 : -16384 ≤ y) (y2 : y ≤ 16384) : rootN m x mode = prnd false 0 G y (decide (m * 2 ^ (s + 64) - G * G ≠ 0)) mode := by
  rw [fq_root (s + 64) rfl hm hm2 (by omega) hs h1 h2, show (x - ((s + 64 : Nat) : Int)) / 2 = y by omega]
  generalize m * 2 ^ (s + 64) = N at *
  by_cases h : N = G * G
  · rw [if_pos h, decide_eq_false (by omega), prnd_plain (by rw [Nat.zero_mul, Nat.zero_add]; omega) y1 y2, Nat.zero_mul, Nat.zero_add]
  · rw [if_neg h, decide_eq_true (by omega), prnd_more (by rw [Nat.zero_mul, Nat.zero_add]; exact hG) y1 y2, Nat.zero_mul, Nat.zero_add]
set_option maxRecDepth 100000 in
set_option maxHeartbeats 4000000 in
theorem fsqrt_root {m : Nat} {x mode : Int} {w : World} (hm : 0 < m) (hm2 : m < 9007199254740992) (x1 : -1074 ≤ x) (x2 : x ≤ 972) :
    Calls Try.prog 129 #[.int .u64 (m : Int), .int .i64 x, .int .i64 mode] w fun e W' => e = .returned (.tuple #[.int .u64 ((rootN m x mode).1 : Int), .int .i64 ((rootN m x mode).2 : Int)]) ∧ Below w.heap.size w W' := by
  have hnm : nbits m ≤ 53 := nbits_le (show m < 2 ^ 53 from hm2)
  have hnm1 := (nbits_bounds (Nat.ne_of_gt hm)).1
  have hl := plz m (by omega) w
  obtain ⟨l, hl2⟩ : ∃ l, l = 64 - nbits m := ⟨_, rfl⟩
  rw [← hl2] at hl
  obtain ⟨p, hp⟩ : ∃ p : Nat, (x - (l : Int)) % 2 = p := ⟨((x - (l : Int)) % 2).toNat, by omega⟩
  have hpa := parity (x - (l : Int))
  rw [hp] at hpa
  obtain ⟨s, hs⟩ : ∃ s, s = l - p := ⟨_, rfl⟩
  have zs : (l : Int) - (p : Int) = (s : Int) := by omega
  obtain ⟨y, hy⟩ : ∃ y, x - (s : Int) - 64 = 2 * y := ⟨(x - (s : Int) - 64) / 2, by omega⟩
  have hX : m * 2 ^ s < 18446744073709551616 := by
    have h1 := nbits_lt m
    have h2 : m * 2 ^ s < 2 ^ nbits m * 2 ^ s := Nat.mul_lt_mul_of_pos_right h1 (Nat.two_pow_pos _)
    rw [← Nat.pow_add] at h2
    exact Nat.lt_of_lt_of_le h2 (show 2 ^ (nbits m + s) ≤ 2 ^ 64 from Nat.pow_le_pow_right (by decide) (by omega))
  have hX2 : 4611686018427387904 ≤ m * 2 ^ s := by
    have h1 := (nbits_bounds (Nat.ne_of_gt hm)).2.1
    have h2 := Nat.mul_le_mul_right (2 ^ s) h1
    rw [← Nat.pow_add] at h2
    exact Nat.le_trans (show 2 ^ 62 ≤ 2 ^ (nbits m - 1 + s) from Nat.pow_le_pow_right (by decide) (by omega)) h2
  have s1 := shl_any m s
  rw [Nat.mod_eq_of_lt hX] at s1
  have hfin := fun (G : Nat) h1 h2 h3 => root_fin (m := m) (s := s) (G := G) (x := x) (y := y) (mode := mode) hm hm2 hy (by omega) h1 h2 h3 (by omega) (by omega)
  have hXs : m * 2 ^ (s + 64) = m * 2 ^ s * 18446744073709551616 := by rw [Nat.pow_add, ← Nat.mul_assoc]
  rw [hXs] at hfin
  have hquo : (2 * y).tdiv 2 = y := Int.mul_tdiv_cancel_left _ (by decide)
  have hsl : (s : Int) ≤ 64 := by omega
  have hll : (l : Int) ≤ 64 := by omega
  have hpl : (p : Int) ≤ 1 := by omega
  have y1 : -1000 ≤ y := by omega
  have y2 : y ≤ 1000 := by omega
  clear hp hs hl2 hnm hnm1 hXs
  generalize m * 2 ^ s = X at *
  have hX' : (X : Int) ≤ 18446744073709551615 := by omega
  have HX := Lib.hid hX
  have HX2 := Lib.hid hX2
  have HF := Lib.hid hfin
  obtain ⟨P, hP⟩ : ∃ P, P = rootN m x mode := ⟨_, rfl⟩
  rw [← hP]
  have HP := Lib.hid hP
  clear hX hX2 hfin hm hm2 hP
  go_enter Try.func129, Try.ntmps129
  go_wp2_with fail
  refine hl.mono ?_
  rintro e w1 ⟨rfl, rfl⟩
  clear hl
  have hN := num_pair w X HX.out
  have b1 := (Below.refl w.heap.size w).alloc (Nat.le_refl _) (.cells #[.int .u64 0, .int .u64 (X : Int)] 32)
  go_wp2_with fail
  generalize (w.alloc (.cells #[.int .u64 0, .int .u64 (X : Int)] 32)) = W1 at hN b1 ⊢
  refine (sqrt_num hN (by omega)).mono ?_
  rintro e w2 ⟨q, r, G, rfl, ⟨g1, g2⟩, nq, nr, b2⟩
  have hG63 : 9223372036854775808 ≤ G := by
    refine Nat.not_lt.1 fun h => ?_
    have h5 : (G + 1) * (G + 1) ≤ 9223372036854775808 * 9223372036854775808 := Nat.mul_le_mul h h
    have h6 : 4611686018427387904 * 18446744073709551616 ≤ X * 18446744073709551616 := Nat.mul_le_mul_right _ HX2.out
    have h7 : 9223372036854775808 * 9223372036854775808 = 4611686018427387904 * 18446744073709551616 := by decide
    exact absurd (Nat.lt_of_lt_of_le g2 (Nat.le_trans h5 (by rw [h7]; exact h6))) (Nat.lt_irrefl _)
  have hG64 : G < 18446744073709551616 := by
    refine Nat.not_le.1 fun h => ?_
    have h5 : 18446744073709551616 * 18446744073709551616 ≤ G * G := Nat.mul_le_mul h h
    have h6 : X * 18446744073709551616 < 18446744073709551616 * 18446744073709551616 := Nat.mul_lt_mul_of_pos_right HX.out (by decide)
    exact absurd (Nat.lt_of_lt_of_le h6 (Nat.le_trans h5 g1)) (Nat.lt_irrefl _)
  have hroot := HF.out G g1 g2 (by omega)
  rw [digs_small (by decide) (by omega) hG64] at nq
  obtain ⟨S, off, cap, rfl, hc⟩ := nq.word
  obtain ⟨Sr, ⟨ra, rc, rfl, hrc, hra⟩⟩ : ∃ Sr, ∃ ra rc, r = .slice ra (digs 18446744073709551616 (X * 18446744073709551616 - G * G)).length rc ∧ (digs 18446744073709551616 (X * 18446744073709551616 - G * G)).length ≤ rc ∧ True := by
    obtain ⟨Sr, h1, _⟩ := nr
    obtain ⟨ra, rc, h3, h4, _⟩ := h1.slice
    exact ⟨Sr, ra, rc, h3, h4, trivial⟩
  have hlen := len_pos64 (X * 18446744073709551616 - G * G)
  generalize decide (X * 18446744073709551616 - G * G ≠ 0) = more at *
  have hGl : (G : Int) ≤ 18446744073709551615 := by omega
  have hr := pround (neg := false) (more := more) (hi := 0) (lo := G) (exp := y) (mode := mode) (w := w2) (by omega) hGl (by omega) (by omega)
  rw [← hroot, ← HP.out] at hr
  have B2 := below_both b1 b2
  clear nr hra hrc g1 g2 hG63 hG64 hroot HF HX HX2 nq hN HP b1 b2
  generalize (digs 18446744073709551616 (X * 18446744073709551616 - G * G)).length = L at *
  go_wp2_with fail
  refine hr.mono ?_
  rintro e w3 ⟨rfl, b3⟩
  go_wp2
  go_ret2
  exact ⟨rfl, below_both B2 b3⟩
set_option maxRecDepth 100000 in
set_option maxHeartbeats 4000000 in
theorem fsqrt_sqrt {a : Nat} {mode : Int} {w : World} (ha : (a : Int) ≤ 18446744073709551615) :
    Calls Try.prog 98 #[.int .u64 (a : Int), .int .i64 mode] w fun e W' => e = .returned (.tuple #[.int .u64 ((rsqrt a mode).1 : Int), .int .i64 ((rsqrt a mode).2 : Int)]) ∧ Below w.heap.size w W' := by
  have hA := pclass1 (w := w) ha
  have ca3 := cls_le a
  have hS := fun h => psplit_fin1 (w := w) ha (cls_fin.1 h)
  have hpos := fun h => sig_pos (a := a) h
  have hsg := fun h => (sig_fits (a := a) (cls_fin.1 h)).1.2.1
  obtain ⟨x1, x2⟩ := xpo_range06 a
  obtain ⟨t, ht, htn⟩ : ∃ t : Int, (a : Int) / 9223372036854775808 = t ∧ (t != 0) = neg6 a := by
    refine ⟨_, rfl, ?_⟩
    unfold neg6
    by_cases c : (9223372036854775808 : Int) ≤ (a : Int)
    · rw [decide_eq_true c, show (a : Int) / 9223372036854775808 = 1 by omega]; rfl
    · rw [decide_eq_false c, show (a : Int) / 9223372036854775808 = 0 by omega]; rfl
  obtain ⟨P, hP⟩ : ∃ P, P = rsqrt a mode := ⟨_, rfl⟩
  rw [← hP]
  unfold rsqrt at hP
  have ht0 : 0 ≤ t := by omega
  have ht1 : t ≤ 1 := by omega
  generalize neg6 a = sA at *
  generalize cls a = ca at *
  have ca4 : ca = 0 ∨ ca = 1 ∨ ca = 2 ∨ ca = 3 := by omega
  clear ca3
  rcases ca4 with rfl | rfl | rfl | rfl
  · rw [if_neg (by decide), if_pos rfl] at hP
    subst hP
    clear hS hpos hsg
    cases sA
    all_goals
      go_enter Try.func98, Try.ntmps98
      go_wp2_with fail
      refine hA.mono ?_
      rintro e w1 ⟨rfl, rfl⟩
      clear hA
      go_wp2
      go_ret2
      exact ⟨rfl, Below.refl _ _⟩
  · rw [if_neg (by decide), if_neg (by decide)] at hP
    replace hS := hS (by decide)
    replace hsg := hsg (by decide)
    replace hpos := hpos rfl
    cases sA
    · rw [if_neg Bool.false_ne_true, if_neg (by decide)] at hP
      have hr := fsqrt_root (m := sig a) (x := xpo a) (mode := mode) (w := w) hpos hsg x1 x2
      rw [← hP] at hr
      clear hP hpos hsg
      generalize sig a = mA at *
      generalize xpo a = xA at *
      go_enter Try.func98, Try.ntmps98
      go_wp2_with fail
      refine hA.mono ?_
      rintro e w1 ⟨rfl, rfl⟩
      clear hA
      go_wp2_with fail
      refine hS.mono ?_
      rintro e w1 ⟨rfl, rfl⟩
      clear hS
      go_wp2_with fail
      refine hr.mono ?_
      rintro e w1 ⟨rfl, b1⟩
      go_wp2
      go_ret2
      exact ⟨rfl, b1⟩
    · rw [if_pos rfl] at hP
      subst hP
      clear hS hpos hsg
      go_enter Try.func98, Try.ntmps98
      go_wp2_with fail
      refine hA.mono ?_
      rintro e w1 ⟨rfl, rfl⟩
      clear hA
      go_wp2
      go_ret2
      exact ⟨rfl, Below.refl _ _⟩
  · rw [if_neg (by decide), if_neg (by decide)] at hP
    clear hS hpos hsg
    cases sA
    · rw [if_neg Bool.false_ne_true, if_pos rfl] at hP
      subst hP
      go_enter Try.func98, Try.ntmps98
      go_wp2_with fail
      refine hA.mono ?_
      rintro e w1 ⟨rfl, rfl⟩
      clear hA
      go_wp2
      go_ret2
      exact ⟨rfl, Below.refl _ _⟩
    · rw [if_pos rfl] at hP
      subst hP
      go_enter Try.func98, Try.ntmps98
      go_wp2_with fail
      refine hA.mono ?_
      rintro e w1 ⟨rfl, rfl⟩
      clear hA
      go_wp2
      go_ret2
      exact ⟨rfl, Below.refl _ _⟩
  · rw [if_pos rfl] at hP
    subst hP
    clear hS hpos hsg
    cases sA
    all_goals
      go_enter Try.func98, Try.ntmps98
      go_wp2_with fail
      refine hA.mono ?_
      rintro e w1 ⟨rfl, rfl⟩
      clear hA
      go_wp2
      go_ret2
      exact ⟨rfl, Below.refl _ _⟩
end Go.Proofs.Ytdcebkhdnhdejaa
