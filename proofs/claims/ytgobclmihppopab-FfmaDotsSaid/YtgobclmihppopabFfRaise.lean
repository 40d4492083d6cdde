/- ffma.raise: what it keeps. -/
import Derived.Test.YtgobclmihppopabFfLow
import Derived.BigRegion
namespace Go.Proofs.Ytgobclmihppopab
open Go.RowKit Go.Shelf

theorem Bk.drew {W : World} {g : Nat} {cs : Array Value} {t : TypeId} (h : Bk W g cs t) : Bk W.drew g cs t := h
/-- two words shifted up -/
theorem two_up {h l g u : Nat} (hg : g + u = 64) : (h * 2 ^ g + l / 2 ^ u) * 18446744073709551616 + l * 2 ^ g % 18446744073709551616 = (h * 18446744073709551616 + l) * 2 ^ g := by
  have hB : (18446744073709551616 : Nat) = 2 ^ u * 2 ^ g := by rw [← Nat.pow_add, Nat.add_comm u, hg]
  have e1 : l * 2 ^ g / 18446744073709551616 = l / 2 ^ u := by rw [hB]; exact Nat.mul_div_mul_right _ _ (Nat.two_pow_pos g)
  have e2 := Nat.div_add_mod (l * 2 ^ g) 18446744073709551616
  rw [e1] at e2
  rw [Nat.add_mul, Nat.add_mul, Nat.add_assoc, Nat.mul_comm (l / 2 ^ u), e2, Nat.mul_right_comm]
/-- where the highest bit comes to stand -/
theorem up_range {h l : Nat} (hh : h < 9223372036854775808) (hl : l < 18446744073709551616) (h0 : h = 0 → l = 9223372036854775808) :
    2 ^ 126 ≤ (h * 18446744073709551616 + l) * 2 ^ (63 - nbits h) ∧ (h * 18446744073709551616 + l) * 2 ^ (63 - nbits h) < 2 ^ 127 ∧ h * 2 ^ (63 - nbits h) < 9223372036854775808 := by
  have hb : nbits h ≤ 63 := nbits_le (show h < 2 ^ 63 from hh)
  by_cases hz : h = 0
  · subst hz
    rw [h0 rfl, nbits_zero, Nat.zero_mul, Nat.zero_add]
    decide
  · obtain ⟨b1, b2, b3⟩ := nbits_bounds hz
    have hp : 0 < 2 ^ (63 - nbits h) := Nat.two_pow_pos _
    have c1 : 2 ^ (nbits h - 1) * 18446744073709551616 ≤ h * 18446744073709551616 + l := Nat.le_trans (Nat.mul_le_mul_right _ b2) (Nat.le_add_right _ _)
    have c2 : h * 18446744073709551616 + l < 2 ^ nbits h * 18446744073709551616 := by
      have h1 := Nat.mul_le_mul_right 18446744073709551616 (show h + 1 ≤ 2 ^ nbits h from b3)
      rw [Nat.add_mul, Nat.one_mul] at h1
      exact Nat.lt_of_lt_of_le (Nat.add_lt_add_left hl _) h1
    have hB : (18446744073709551616 : Nat) = 2 ^ 64 := rfl
    refine ⟨?_, ?_, ?_⟩
    · have h1 := Nat.mul_le_mul_right (2 ^ (63 - nbits h)) c1
      rw [hB, ← Nat.pow_add, ← Nat.pow_add, show nbits h - 1 + 64 + (63 - nbits h) = 126 by omega] at h1
      exact h1
    · have h1 := Nat.mul_lt_mul_of_pos_right c2 hp
      rw [hB, ← Nat.pow_add, ← Nat.pow_add, show nbits h + 64 + (63 - nbits h) = 127 by omega] at h1
      exact h1
    · have h1 := Nat.mul_lt_mul_of_pos_right b3 hp
      rw [← Nat.pow_add, show nbits h + (63 - nbits h) = 63 by omega] at h1
      exact h1
set_option maxRecDepth 100000 in
set_option maxHeartbeats 4000000 in
theorem raise_zero {s : Bool} {x : Int} {w : World} :
    Calls Try.prog 78 #[.agg #[.bool s, .int .u64 0, .int .u64 0, .int .i64 x]] w fun e W' => e = .returned (.agg #[.bool s, .int .u64 0, .int .u64 0, .int .i64 (-16384)]) ∧ Below w.heap.size w W' := by
  have hbx := bk_two w #[.bool s, .int .u64 0, .int .u64 0, .int .i64 x] #[.bool false, .int .u64 0, .int .u64 0, .int .i64 0] 74 74
  go_enter Try.func78, Try.ntmps78
  go_upto_region 1 with (fail)
  obtain ⟨hB0, G, R, hsz⟩ := hbx _ rfl
  generalize ((w.alloc (.cells #[.bool s, .int .u64 0, .int .u64 0, .int .i64 x] 74)).alloc (.cells #[.bool false, .int .u64 0, .int .u64 0, .int .i64 0] 74)) = W0 at hB0 G R hsz ⊢
  have c0 := G.cell (i := 0) rfl
  have c1 := G.cell (i := 1) rfl
  have c2 := G.cell (i := 2) rfl
  have c3 := G.cell (i := 3) rfl
  have g3 := G.f 3
  have r0 := R.cell (i := 0) rfl
  have r1 := R.cell (i := 1) rfl
  have r2 := R.cell (i := 2) rfl
  have r3 := R.cell (i := 3) rfl
  have f0 := R.f 0
  have f1 := R.f 1
  have f2 := R.f 2
  have f3 := R.f 3
  go_wp2
  have hR := ((((R.put (p := ⟨w.heap.size, 3, none⟩) (by simp) (.int .i64 (-16384))).set 0 (.bool s)).set 1 (.int .u64 0)).set 2 (.int .u64 0)).set 3 (.int .i64 (-16384))
  have hBB := below_set4 (hB0.setCell (p := ⟨w.heap.size, 3, none⟩) (Nat.le_refl _) (.int .i64 (-16384))) (Nat.le_succ _) (.bool s) (.int .u64 0) (.int .u64 0) (.int .i64 (-16384))
  clear r0 r1 r2 r3 f0 f1 f2 f3 c0 c1 c2 c3 g3 G R hB0 hbx
  generalize (((((W0.setCell ⟨w.heap.size, 3, none⟩ (.int .i64 (-16384))).setCell ⟨w.heap.size + 1, 0, none⟩ (.bool s)).setCell ⟨w.heap.size + 1, 1, none⟩ (.int .u64 0)).setCell ⟨w.heap.size + 1, 2, none⟩ (.int .u64 0)).setCell ⟨w.heap.size + 1, 3, none⟩ (.int .i64 (-16384))) = W9 at hR hBB ⊢
  have q0 : W9.cell? ⟨w.heap.size + 1, 0, none⟩ = some (.bool s) := hR.cell (i := 0) rfl
  have q1 : W9.cell? ⟨w.heap.size + 1, 1, none⟩ = some (.int .u64 0) := hR.cell (i := 1) rfl
  have q2 : W9.cell? ⟨w.heap.size + 1, 2, none⟩ = some (.int .u64 0) := hR.cell (i := 2) rfl
  have q3 : W9.cell? ⟨w.heap.size + 1, 3, none⟩ = some (.int .i64 (-16384)) := hR.cell (i := 3) rfl
  exact bodyPost_ret (v := .agg #[.bool s, .int .u64 0, .int .u64 0, .int .i64 (-16384)]) (by simp [results, Try.results78, go_sem, q0, q1, q2, q3]) rfl ⟨rfl, hBB⟩
set_option maxRecDepth 100000 in
set_option maxHeartbeats 4000000 in
/-- the upper word is not 0 -/
theorem raise_hi {s : Bool} {h l : Nat} {x : Int} {w : World} (hh : h < 9223372036854775808) (hl : l < 18446744073709551616) (h0 : h ≠ 0) (x1 : -100000 ≤ x) (x2 : x ≤ 100000) :
    Calls Try.prog 78 #[.agg #[.bool s, .int .u64 (h : Int), .int .u64 (l : Int), .int .i64 x]] w fun e W' => ∃ H L g : Nat, e = .returned (.agg #[.bool s, .int .u64 (H : Int), .int .u64 (L : Int), .int .i64 (x - (g : Int))]) ∧
      H < 9223372036854775808 ∧ L < 18446744073709551616 ∧ H * 18446744073709551616 + L = (h * 18446744073709551616 + l) * 2 ^ g ∧ 2 ^ 126 ≤ (h * 18446744073709551616 + l) * 2 ^ g ∧ (h * 18446744073709551616 + l) * 2 ^ g < 2 ^ 127 ∧ g ≤ 63 ∧ Below w.heap.size w W' := by
  have hbx := bk_two w #[.bool s, .int .u64 (h : Int), .int .u64 (l : Int), .int .i64 x] #[.bool false, .int .u64 0, .int .u64 0, .int .i64 0] 74 74
  obtain ⟨k1, k2, k3⟩ := up_range hh hl (fun hc => absurd hc h0)
  have hb : nbits h ≤ 63 := nbits_le (show h < 2 ^ 63 from hh)
  have hz := fun u => plz h (by omega) u
  obtain ⟨g, hg⟩ : ∃ g, g = 63 - nbits h := ⟨_, rfl⟩
  obtain ⟨n, hn⟩ : ∃ n, n = 64 - nbits h := ⟨_, rfl⟩
  rw [← hg] at k1 k2 k3
  rw [← hn] at hz
  have z1 : (n : Int) - 1 = (g : Int) := by omega
  have hnl : (n : Int) ≤ 64 := by omega
  have hgl : (g : Int) ≤ 63 := by omega
  obtain ⟨u, hu⟩ : ∃ u, u = 64 - g := ⟨_, rfl⟩
  have z2 : (64 : Int) - (g : Int) = (u : Int) := by omega
  have hul : (u : Int) ≤ 64 := by omega
  have t1 := two_up (h := h) (l := l) (g := g) (u := u) (by omega)
  have s1 := shl_any h g
  rw [Nat.mod_eq_of_lt (by omega)] at s1
  have s2 := shr_any (x := l) hl u
  rw [Nat.min_eq_left (by omega)] at s2
  have s3 := shl_any l g
  have ho := or_below (a := h) (g := g) (y := l) (by omega) (by omega) hl
  rw [show 64 - g = u by omega] at ho
  have hLl : l * 2 ^ g % 18446744073709551616 < 18446744073709551616 := Nat.mod_lt _ (by decide)
  have hHl : h * 2 ^ g + l / 2 ^ u < 9223372036854775808 := by
    refine Nat.not_le.1 fun hc => ?_
    have h5 := Nat.mul_le_mul_right 18446744073709551616 hc
    have h6 : (2 : Nat) ^ 127 = 9223372036854775808 * 18446744073709551616 := by decide
    rw [h6] at k2
    exact absurd (Nat.lt_of_lt_of_le k2 (Nat.le_trans h5 (by rw [← t1]; exact Nat.le_add_right _ _))) (Nat.lt_irrefl _)
  have HK1 := Lib.hid k1
  have HK2 := Lib.hid k2
  have HT := Lib.hid t1
  have HH := Lib.hid hHl
  have HL := Lib.hid hLl
  have hgn : g ≤ 63 := by omega
  have d0 : ((h : Int) == 0) = false := beq_eq_false_iff_ne.2 (by omega)
  have i1 : l / 2 ^ u ≤ 18446744073709551615 := Nat.le_trans (Nat.div_le_self _ _) (by omega)
  have i2 : h * 2 ^ g ≤ 18446744073709551615 := by omega
  have i3 : l * 2 ^ g % 18446744073709551616 ≤ 18446744073709551615 := by omega
  have i4 : h * 2 ^ g + l / 2 ^ u ≤ 18446744073709551615 := by omega
  clear k1 k2 k3 t1 hHl hLl hg hn hu hb h0 hh hl
  generalize l * 2 ^ g % 18446744073709551616 = L at *
  generalize l / 2 ^ u = Y at *
  generalize h * 2 ^ g = X at *
  generalize X + Y = H at *
  go_enter Try.func78, Try.ntmps78
  go_wp2_with fail
  obtain ⟨hB0, G, R, hsz⟩ := hbx _ rfl
  generalize ((w.alloc (.cells #[.bool s, .int .u64 (h : Int), .int .u64 (l : Int), .int .i64 x] 74)).alloc (.cells #[.bool false, .int .u64 0, .int .u64 0, .int .i64 0] 74)) = W0 at hB0 G R hsz ⊢
  have c0 := G.cell (i := 0) rfl
  have c1 := G.cell (i := 1) rfl
  have c2 := G.cell (i := 2) rfl
  have c3 := G.cell (i := 3) rfl
  have g1 := G.f 1
  have g2 := G.f 2
  have g3 := G.f 3
  have r0 := R.cell (i := 0) rfl
  have r1 := R.cell (i := 1) rfl
  have r2 := R.cell (i := 2) rfl
  have r3 := R.cell (i := 3) rfl
  have f0 := R.f 0
  have f1 := R.f 1
  have f2 := R.f 2
  have f3 := R.f 3
  go_wp2_with fail
  refine (hz _).mono ?_
  rintro e w1 ⟨rfl, rfl⟩
  clear hz
  go_wp2
  go_region
  go_wp2
  have hR := (((((((R.put (p := ⟨w.heap.size, 1, none⟩) (by simp) (.int .u64 (H : Int))).put (p := ⟨w.heap.size, 2, none⟩) (by simp) (.int .u64 (L : Int))).put (p := ⟨w.heap.size, 3, none⟩) (by simp) (.int .i64 (x - (g : Int)))).set 0 (.bool s)).set 1 (.int .u64 (H : Int))).set 2 (.int .u64 (L : Int))).set 3 (.int .i64 (x - (g : Int)))).drew
  have hBB := (below_set4 (((hB0.setCell (p := ⟨w.heap.size, 1, none⟩) (Nat.le_refl _) (.int .u64 (H : Int))).setCell (p := ⟨w.heap.size, 2, none⟩) (Nat.le_refl _) (.int .u64 (L : Int))).setCell (p := ⟨w.heap.size, 3, none⟩) (Nat.le_refl _) (.int .i64 (x - (g : Int)))) (Nat.le_succ _) (.bool s) (.int .u64 (H : Int)) (.int .u64 (L : Int)) (.int .i64 (x - (g : Int)))).drew
  clear r0 r1 r2 r3 f0 f1 f2 f3 c0 c1 c2 c3 g1 g2 g3 G R hB0 hbx
  generalize (((((((W0.setCell ⟨w.heap.size, 1, none⟩ (.int .u64 (H : Int))).setCell ⟨w.heap.size, 2, none⟩ (.int .u64 (L : Int))).setCell ⟨w.heap.size, 3, none⟩ (.int .i64 (x - (g : Int)))).setCell ⟨w.heap.size + 1, 0, none⟩ (.bool s)).setCell ⟨w.heap.size + 1, 1, none⟩ (.int .u64 (H : Int))).setCell ⟨w.heap.size + 1, 2, none⟩ (.int .u64 (L : Int))).setCell ⟨w.heap.size + 1, 3, none⟩ (.int .i64 (x - (g : Int)))).drew = W9 at hR hBB ⊢
  have q0 : W9.cell? ⟨w.heap.size + 1, 0, none⟩ = some (.bool s) := hR.cell (i := 0) rfl
  have q1 : W9.cell? ⟨w.heap.size + 1, 1, none⟩ = some (.int .u64 (H : Int)) := hR.cell (i := 1) rfl
  have q2 : W9.cell? ⟨w.heap.size + 1, 2, none⟩ = some (.int .u64 (L : Int)) := hR.cell (i := 2) rfl
  have q3 : W9.cell? ⟨w.heap.size + 1, 3, none⟩ = some (.int .i64 (x - (g : Int))) := hR.cell (i := 3) rfl
  exact bodyPost_ret (v := .agg #[.bool s, .int .u64 (H : Int), .int .u64 (L : Int), .int .i64 (x - (g : Int))]) (by simp [results, Try.results78, go_sem, q0, q1, q2, q3]) rfl
    ⟨H, L, g, rfl, HH.out, HL.out, HT.out, HK1.out, HK2.out, hgn, hBB⟩
set_option maxRecDepth 100000 in
set_option maxHeartbeats 4000000 in
/-- the upper word is 0 -/
theorem raise_lo {s : Bool} {l : Nat} {x : Int} {w : World} (hl : l < 18446744073709551616) (h0 : l ≠ 0) (x1 : -100000 ≤ x) (x2 : x ≤ 100000) :
    Calls Try.prog 78 #[.agg #[.bool s, .int .u64 0, .int .u64 (l : Int), .int .i64 x]] w fun e W' => ∃ H L g : Nat, e = .returned (.agg #[.bool s, .int .u64 (H : Int), .int .u64 (L : Int), .int .i64 (x - (g : Int))]) ∧
      H < 9223372036854775808 ∧ L < 18446744073709551616 ∧ H * 18446744073709551616 + L = l * 2 ^ g ∧ 2 ^ 126 ≤ l * 2 ^ g ∧ l * 2 ^ g < 2 ^ 127 ∧ g ≤ 126 ∧ Below w.heap.size w W' := by
  have hbx := bk_two w #[.bool s, .int .u64 0, .int .u64 (l : Int), .int .i64 x] #[.bool false, .int .u64 0, .int .u64 0, .int .i64 0] 74 74
  obtain ⟨h1, hh1⟩ : ∃ h1, h1 = l / 2 := ⟨_, rfl⟩
  obtain ⟨l1, hl1⟩ : ∃ l1, l1 = l * 9223372036854775808 % 18446744073709551616 := ⟨_, rfl⟩
  have v1 : (l : Int) / 2 = (h1 : Int) := by omega
  have v2 : IntKind.u64.wrap ((l : Int) * 9223372036854775808) = (l1 : Int) := by rw [IntKind.wrap_u64]; omega
  have hN1 : h1 * 18446744073709551616 + l1 = l * 2 ^ 63 := by
    have e0 := two_up (h := 0) (l := l) (g := 63) (u := 1) rfl
    simp only [Nat.zero_mul, Nat.zero_add] at e0
    rw [hh1, hl1]
    exact e0
  have hh : h1 < 9223372036854775808 := by omega
  have hlb : l1 < 18446744073709551616 := by omega
  have hone : h1 = 0 → l1 = 9223372036854775808 := by
    intro hc
    have hl1' : l = 1 := by omega
    rw [hl1, hl1']
  obtain ⟨k1, k2, k3⟩ := up_range hh hlb hone
  have hb : nbits h1 ≤ 63 := nbits_le (show h1 < 2 ^ 63 from hh)
  have hz := fun u => plz h1 (by omega) u
  obtain ⟨g, hg⟩ : ∃ g, g = 63 - nbits h1 := ⟨_, rfl⟩
  obtain ⟨n, hn⟩ : ∃ n, n = 64 - nbits h1 := ⟨_, rfl⟩
  rw [← hg] at k1 k2 k3
  rw [← hn] at hz
  have z1 : (n : Int) - 1 = (g : Int) := by omega
  have hnl : (n : Int) ≤ 64 := by omega
  have hgl : (g : Int) ≤ 63 := by omega
  obtain ⟨u, hu⟩ : ∃ u, u = 64 - g := ⟨_, rfl⟩
  have z2 : (64 : Int) - (g : Int) = (u : Int) := by omega
  have hul : (u : Int) ≤ 64 := by omega
  have t1 := two_up (h := h1) (l := l1) (g := g) (u := u) (by omega)
  have s1 := shl_any h1 g
  rw [Nat.mod_eq_of_lt (by omega)] at s1
  have s2 := shr_any (x := l1) hlb u
  rw [Nat.min_eq_left (by omega)] at s2
  have s3 := shl_any l1 g
  have ho := or_below (a := h1) (g := g) (y := l1) (by omega) (by omega) hlb
  rw [show 64 - g = u by omega] at ho
  have hLl : l1 * 2 ^ g % 18446744073709551616 < 18446744073709551616 := Nat.mod_lt _ (by decide)
  have hHl : h1 * 2 ^ g + l1 / 2 ^ u < 9223372036854775808 := by
    refine Nat.not_le.1 fun hc => ?_
    have h5 := Nat.mul_le_mul_right 18446744073709551616 hc
    have h6 : (2 : Nat) ^ 127 = 9223372036854775808 * 18446744073709551616 := by decide
    rw [h6] at k2
    exact absurd (Nat.lt_of_lt_of_le k2 (Nat.le_trans h5 (by rw [← t1]; exact Nat.le_add_right _ _))) (Nat.lt_irrefl _)
  have hpw : l * 2 ^ 63 * 2 ^ g = l * 2 ^ (g + 63) := by rw [Nat.mul_assoc, ← Nat.pow_add, Nat.add_comm 63 g]
  rw [hN1, hpw] at k1 k2 t1
  have HK1 := Lib.hid k1
  have HK2 := Lib.hid k2
  have HT := Lib.hid t1
  have HH := Lib.hid hHl
  have HL := Lib.hid hLl
  have hgn : g ≤ 63 := by omega
  have d0 : ((l : Int) == 0) = false := beq_eq_false_iff_ne.2 (by omega)
  have i1 : l1 / 2 ^ u ≤ 18446744073709551615 := Nat.le_trans (Nat.div_le_self _ _) (by omega)
  have i2 : h1 * 2 ^ g ≤ 18446744073709551615 := by omega
  have i3 : l1 * 2 ^ g % 18446744073709551616 ≤ 18446744073709551615 := by omega
  have i4 : h1 * 2 ^ g + l1 / 2 ^ u ≤ 18446744073709551615 := by omega
  have j1 : (h1 : Int) ≤ 9223372036854775807 := by omega
  have j2 : (l1 : Int) ≤ 18446744073709551615 := by omega
  clear k1 k2 k3 t1 hHl hLl hg hn hu hb h0 hh hl hlb hone hN1 hpw hh1 hl1
  generalize l1 * 2 ^ g % 18446744073709551616 = L at *
  generalize l1 / 2 ^ u = Y at *
  generalize h1 * 2 ^ g = X at *
  generalize X + Y = H at *
  go_enter Try.func78, Try.ntmps78
  go_upto_region 1 with (fail)
  obtain ⟨hB0, G, R, hsz⟩ := hbx _ rfl
  generalize ((w.alloc (.cells #[.bool s, .int .u64 0, .int .u64 (l : Int), .int .i64 x] 74)).alloc (.cells #[.bool false, .int .u64 0, .int .u64 0, .int .i64 0] 74)) = W0 at hB0 G R hsz ⊢
  have c0 := G.cell (i := 0) rfl
  have c1 := G.cell (i := 1) rfl
  have c2 := G.cell (i := 2) rfl
  have c3 := G.cell (i := 3) rfl
  have g1 := G.f 1
  have g2 := G.f 2
  have g3 := G.f 3
  go_wp2_with fail
  have G1 : Bk (((W0.setCell ⟨w.heap.size, 1, none⟩ (.int .u64 (h1 : Int))).setCell ⟨w.heap.size, 2, none⟩ (.int .u64 (l1 : Int))).setCell ⟨w.heap.size, 3, none⟩ (.int .i64 (x - 63))) w.heap.size #[.bool s, .int .u64 (h1 : Int), .int .u64 (l1 : Int), .int .i64 (x - 63)] 74 :=
    ((G.set 1 (.int .u64 (h1 : Int))).set 2 (.int .u64 (l1 : Int))).set 3 (.int .i64 (x - 63))
  have R1 := ((R.put (p := ⟨w.heap.size, 1, none⟩) (by simp) (.int .u64 (h1 : Int))).put (p := ⟨w.heap.size, 2, none⟩) (by simp) (.int .u64 (l1 : Int))).put (p := ⟨w.heap.size, 3, none⟩) (by simp) (.int .i64 (x - 63))
  have hB1 := ((hB0.setCell (p := ⟨w.heap.size, 1, none⟩) (Nat.le_refl _) (.int .u64 (h1 : Int))).setCell (p := ⟨w.heap.size, 2, none⟩) (Nat.le_refl _) (.int .u64 (l1 : Int))).setCell (p := ⟨w.heap.size, 3, none⟩) (Nat.le_refl _) (.int .i64 (x - 63))
  clear c0 c1 c2 c3 g1 g2 g3 G R hB0
  generalize (((W0.setCell ⟨w.heap.size, 1, none⟩ (.int .u64 (h1 : Int))).setCell ⟨w.heap.size, 2, none⟩ (.int .u64 (l1 : Int))).setCell ⟨w.heap.size, 3, none⟩ (.int .i64 (x - 63))) = W1 at G1 R1 hB1 ⊢
  have G := G1
  have R := R1
  have c0 := G.cell (i := 0) rfl
  have c1 := G.cell (i := 1) rfl
  have c2 := G.cell (i := 2) rfl
  have c3 := G.cell (i := 3) rfl
  have g1 := G.f 1
  have g2 := G.f 2
  have g3 := G.f 3
  have r0 := R.cell (i := 0) rfl
  have r1 := R.cell (i := 1) rfl
  have r2 := R.cell (i := 2) rfl
  have r3 := R.cell (i := 3) rfl
  have f0 := R.f 0
  have f1 := R.f 1
  have f2 := R.f 2
  have f3 := R.f 3
  refine (hz _).mono ?_
  rintro e w1 ⟨rfl, rfl⟩
  clear hz
  go_wp2
  go_region
  go_wp2
  have hR := (((((((R.put (p := ⟨w.heap.size, 1, none⟩) (by simp) (.int .u64 (H : Int))).put (p := ⟨w.heap.size, 2, none⟩) (by simp) (.int .u64 (L : Int))).put (p := ⟨w.heap.size, 3, none⟩) (by simp) (.int .i64 (x - 63 - (g : Int)))).set 0 (.bool s)).set 1 (.int .u64 (H : Int))).set 2 (.int .u64 (L : Int))).set 3 (.int .i64 (x - 63 - (g : Int)))).drew
  have hBB := (below_set4 (((hB1.setCell (p := ⟨w.heap.size, 1, none⟩) (Nat.le_refl _) (.int .u64 (H : Int))).setCell (p := ⟨w.heap.size, 2, none⟩) (Nat.le_refl _) (.int .u64 (L : Int))).setCell (p := ⟨w.heap.size, 3, none⟩) (Nat.le_refl _) (.int .i64 (x - 63 - (g : Int)))) (Nat.le_succ _) (.bool s) (.int .u64 (H : Int)) (.int .u64 (L : Int)) (.int .i64 (x - 63 - (g : Int)))).drew
  clear r0 r1 r2 r3 f0 f1 f2 f3 c0 c1 c2 c3 g1 g2 g3 G R hB1
  generalize (((((((W1.setCell ⟨w.heap.size, 1, none⟩ (.int .u64 (H : Int))).setCell ⟨w.heap.size, 2, none⟩ (.int .u64 (L : Int))).setCell ⟨w.heap.size, 3, none⟩ (.int .i64 (x - 63 - (g : Int)))).setCell ⟨w.heap.size + 1, 0, none⟩ (.bool s)).setCell ⟨w.heap.size + 1, 1, none⟩ (.int .u64 (H : Int))).setCell ⟨w.heap.size + 1, 2, none⟩ (.int .u64 (L : Int))).setCell ⟨w.heap.size + 1, 3, none⟩ (.int .i64 (x - 63 - (g : Int)))).drew = W9 at hR hBB ⊢
  have q0 : W9.cell? ⟨w.heap.size + 1, 0, none⟩ = some (.bool s) := hR.cell (i := 0) rfl
  have q1 : W9.cell? ⟨w.heap.size + 1, 1, none⟩ = some (.int .u64 (H : Int)) := hR.cell (i := 1) rfl
  have q2 : W9.cell? ⟨w.heap.size + 1, 2, none⟩ = some (.int .u64 (L : Int)) := hR.cell (i := 2) rfl
  have q3 : W9.cell? ⟨w.heap.size + 1, 3, none⟩ = some (.int .i64 (x - 63 - (g : Int))) := hR.cell (i := 3) rfl
  exact bodyPost_ret (v := .agg #[.bool s, .int .u64 (H : Int), .int .u64 (L : Int), .int .i64 (x - 63 - (g : Int))]) (by simp [results, Try.results78, go_sem, q0, q1, q2, q3]) rfl
    ⟨H, L, g + 63, by rw [show x - ((g + 63 : Nat) : Int) = x - 63 - (g : Int) by omega], HH.out, HL.out, HT.out, HK1.out, HK2.out, by omega, hBB⟩
/-- raised, whatever it is -/
theorem ff_raise {s : Bool} {h l : Nat} {x : Int} {w : World} (hh : h < 9223372036854775808) (hl : l < 18446744073709551616) (x1 : -100000 ≤ x) (x2 : x ≤ 100000) :
    Calls Try.prog 78 #[.agg #[.bool s, .int .u64 (h : Int), .int .u64 (l : Int), .int .i64 x]] w fun e W' => ∃ (H L : Nat) (X : Int), e = .returned (.agg #[.bool s, .int .u64 (H : Int), .int .u64 (L : Int), .int .i64 X]) ∧
      Hid (H < 9223372036854775808 ∧ L < 18446744073709551616 ∧ ((h * 18446744073709551616 + l = 0 ∧ H = 0 ∧ L = 0 ∧ X = -16384) ∨
        (h * 18446744073709551616 + l ≠ 0 ∧ ∃ g : Nat, g ≤ 126 ∧ X = x - (g : Int) ∧ H * 18446744073709551616 + L = (h * 18446744073709551616 + l) * 2 ^ g ∧ 2 ^ 126 ≤ H * 18446744073709551616 + L ∧ H * 18446744073709551616 + L < 2 ^ 127))) ∧ Below w.heap.size w W' := by
  by_cases h0 : h = 0
  · subst h0
    by_cases l0 : l = 0
    · subst l0
      refine raise_zero.mono ?_
      rintro e W' ⟨rfl, hb⟩
      exact ⟨0, 0, -16384, rfl, Lib.hid ⟨by decide, by decide, .inl ⟨rfl, rfl, rfl, rfl⟩⟩, hb⟩
    · refine (raise_lo hl l0 x1 x2).mono ?_
      rintro e W' ⟨H, L, g, rfl, a1, a2, a3, a4, a5, a6, hb⟩
      refine ⟨H, L, _, rfl, Lib.hid ⟨a1, a2, .inr ⟨?_, g, a6, rfl, ?_, ?_, ?_⟩⟩, hb⟩
      · rw [Nat.zero_mul, Nat.zero_add]; exact l0
      · rw [Nat.zero_mul, Nat.zero_add]; exact a3
      · rw [a3]; exact a4
      · rw [a3]; exact a5
  · refine (raise_hi hh hl h0 x1 x2).mono ?_
    rintro e W' ⟨H, L, g, rfl, a1, a2, a3, a4, a5, a6, hb⟩
    refine ⟨H, L, _, rfl, Lib.hid ⟨a1, a2, .inr ⟨?_, g, by omega, rfl, a3, ?_, ?_⟩⟩, hb⟩
    · have := Nat.le_mul_of_pos_right h (show 0 < 18446744073709551616 by decide)
      omega
    · rw [a3]; exact a4
    · rw [a3]; exact a5
end Go.Proofs.Ytgobclmihppopab
