/- ffma.lower, raise: what they keep. -/
import Derived.Test.YtgobclmihppopabFfBox
import Derived.BigRegion
namespace Go.Proofs.Ytgobclmihppopab
open Go.RowKit Go.Shelf

theorem ne_zero_bool (n : Nat) : ((n : Int) != 0) = decide (n ≠ 0) := by
  by_cases h : n = 0
  · subst h; rfl
  · rw [decide_eq_true h]
    have : ((n : Int) == 0) = false := beq_eq_false_iff_ne.2 (by omega)
    rw [bne, this]; rfl
set_option maxRecDepth 100000 in
set_option maxHeartbeats 4000000 in
/-- fewer than 64 bits go off -/
theorem ff_low_near {s : Bool} {h l g : Nat} {x : Int} {w : World} (hh : h < 18446744073709551616) (hl : l < 18446744073709551616) (hg : g < 64) :
    Calls Try.prog 80 #[.agg #[.bool s, .int .u64 (h : Int), .int .u64 (l : Int), .int .i64 x], .int .i64 (g : Int)] w fun e W' => ∃ H L : Nat, e = .returned (.tuple #[.int .u64 (H : Int), .int .u64 (L : Int), .bool (decide ((h * 18446744073709551616 + l) % 2 ^ g ≠ 0))]) ∧
      H ≤ 18446744073709551615 ∧ L ≤ 18446744073709551615 ∧ H * 18446744073709551616 + L = (h * 18446744073709551616 + l) / 2 ^ g ∧ Below w.heap.size w W' := by
  have hbx := bk_new w #[.bool s, .int .u64 (h : Int), .int .u64 (l : Int), .int .i64 x] 74
  obtain ⟨u, hu⟩ : ∃ u, u = 64 - g := ⟨_, rfl⟩
  obtain ⟨t1, t2, t3, t4, t5⟩ := two_down (h := h) (l := l) (g := g) (u := u) (by omega) hh hl
  have s1 := shr_any (x := h) hh g
  have s2 := shr_any (x := l) hl g
  rw [Nat.min_eq_left (by omega)] at s1 s2
  have s3 := shl_any h u
  have s4 := shl_any l u
  have z1 : (64 : Int) - (g : Int) = (u : Int) := by omega
  have hb : bits .or .u64 ((h * 2 ^ u % 18446744073709551616 : Nat) : Int) ((l / 2 ^ g : Nat) : Int) = ((h * 2 ^ u % 18446744073709551616 + l / 2 ^ g : Nat) : Int) := by
    rw [t4]
    by_cases h0 : g = 0
    · subst h0
      rw [Nat.pow_zero, Nat.mod_one, Nat.zero_mul, Nat.div_one, Nat.zero_add, bits_or_u64_nat _ _ (by omega) hl, Nat.zero_or]
    · have h1 := or_below (a := h % 2 ^ g) (g := u) (y := l) t5 (by omega) hl
      rw [show 64 - u = g by omega] at h1
      exact h1
  have hsum : h * 2 ^ u % 18446744073709551616 + l / 2 ^ g < 18446744073709551616 := by
    have h1 : (h * 18446744073709551616 + l) / 2 ^ g - h / 2 ^ g * 18446744073709551616 = h * 2 ^ u % 18446744073709551616 + l / 2 ^ g := by
      rw [t1, Nat.add_sub_cancel_left]
    rw [t4]
    have h2 : l / 2 ^ g < 2 ^ u := by
      rw [Nat.div_lt_iff_lt_mul (Nat.two_pow_pos _), ← Nat.pow_add, show u + g = 64 by omega]
      exact hl
    have h3 : h % 2 ^ g < 2 ^ g := Nat.mod_lt _ (Nat.two_pow_pos _)
    have h4 := Nat.mul_le_mul_right (2 ^ u) (show h % 2 ^ g + 1 ≤ 2 ^ g from h3)
    rw [Nat.add_mul, Nat.one_mul, ← Nat.pow_add, show g + u = 64 by omega] at h4
    exact Nat.lt_of_lt_of_le (Nat.add_lt_add_left h2 _) h4
  have hne : (((l * 2 ^ u % 18446744073709551616 : Nat) : Int) != 0) = decide ((h * 18446744073709551616 + l) % 2 ^ g ≠ 0) := by
    rw [ne_zero_bool, t2]
    exact decide_eq_decide.2 ⟨fun h0 h1 => h0 (t3.2 h1), fun h0 h1 => h0 (t3.1 h1)⟩
  have hH : h / 2 ^ g ≤ 18446744073709551615 := Nat.le_trans (Nat.div_le_self _ _) (by omega)
  have hL2 : l / 2 ^ g ≤ 18446744073709551615 := Nat.le_trans (Nat.div_le_self _ _) (by omega)
  have hX : h * 2 ^ u % 18446744073709551616 ≤ 18446744073709551615 := by omega
  have hY : l * 2 ^ u % 18446744073709551616 ≤ 18446744073709551615 := by omega
  have HT : Hid (h / 2 ^ g * 18446744073709551616 + (h * 2 ^ u % 18446744073709551616 + l / 2 ^ g) = (h * 18446744073709551616 + l) / 2 ^ g) := Lib.hid t1.symm
  generalize decide ((h * 18446744073709551616 + l) % 2 ^ g ≠ 0) = more at *
  generalize (h * 18446744073709551616 + l) / 2 ^ g = D at *
  clear t1 t2 t3 t4 t5 hu
  generalize l * 2 ^ u % 18446744073709551616 = Y at *
  generalize h * 2 ^ u % 18446744073709551616 = X at *
  generalize l / 2 ^ g = L2 at *
  generalize h / 2 ^ g = H at *
  generalize X + L2 = L at *
  have hgi : (g : Int) ≤ 63 := by omega
  have hui : (u : Int) ≤ 64 := by omega
  have z0 : min (g : Int) 127 = (g : Int) := by omega
  have d0 : decide ((g : Int) < 64) = true := decide_eq_true (by omega)
  have hsum' : L ≤ 18446744073709551615 := by omega
  clear hsum hg hh hl
  go_enter Try.func80, Try.ntmps80
  go_wp2_with fail
  obtain ⟨hB0, G, hsz⟩ := hbx _ rfl
  generalize (w.alloc (.cells #[.bool s, .int .u64 (h : Int), .int .u64 (l : Int), .int .i64 x] 74)) = W0 at hB0 G hsz ⊢
  have c1 := G.cell (i := 1) rfl
  have c2 := G.cell (i := 2) rfl
  go_wp2
  go_quiet (fail)
  go_wp2
  go_ret3
  exact ⟨H, L, rfl, hH, hsum', HT.out, below_both hB0 (below_drewN _ _ _)⟩
theorem two_far {h l k u : Nat} (hk : k + u = 64) (hl : l < 18446744073709551616) :
    (h * 18446744073709551616 + l) / 2 ^ (64 + k) = h / 2 ^ k ∧ ((h * 18446744073709551616 + l) % 2 ^ (64 + k) ≠ 0 ↔ l ≠ 0 ∨ h * 2 ^ u % 18446744073709551616 ≠ 0) := by
  have hB : (18446744073709551616 : Nat) = 2 ^ k * 2 ^ u := by rw [← Nat.pow_add, hk]
  have e0 : 2 ^ (64 + k) = 18446744073709551616 * 2 ^ k := by rw [Nat.pow_add]
  have e1 : (h * 18446744073709551616 + l) / 18446744073709551616 = h := by
    rw [Nat.mul_comm, Nat.mul_add_div (by decide), Nat.div_eq_of_lt hl]; rfl
  have e2 : (h * 18446744073709551616 + l) % 18446744073709551616 = l := by
    rw [Nat.mul_comm, Nat.mul_add_mod, Nat.mod_eq_of_lt hl]
  have e3 : h * 2 ^ u % 18446744073709551616 = h % 2 ^ k * 2 ^ u := by rw [hB, Nat.mul_mod_mul_right]
  have hq : 0 < 2 ^ u := Nat.two_pow_pos u
  refine ⟨?_, ?_⟩
  · rw [e0, ← Nat.div_div_eq_div_mul, e1]
  · rw [e0, Nat.mod_mul, e1, e2, e3]
    generalize h % 2 ^ k = r at *
    constructor
    · intro h1
      by_cases h2 : l = 0
      · right
        intro h3
        rcases Nat.mul_eq_zero.1 h3 with h4 | h4
        · exact h1 (by rw [h2, h4, Nat.mul_zero])
        · omega
      · exact .inl h2
    · intro h1 h2
      obtain ⟨a1, a2⟩ := Nat.add_eq_zero_iff.1 h2
      rcases h1 with h1 | h1
      · exact h1 a1
      · rcases Nat.mul_eq_zero.1 a2 with h4 | h4
        · exact absurd h4 (by decide)
        · exact h1 (by rw [h4, Nat.zero_mul])
set_option maxRecDepth 100000 in
set_option maxHeartbeats 4000000 in
/-- 64 bits or more go off -/
theorem ff_low_far {s : Bool} {h l k : Nat} {x gap : Int} {w : World} (hh : h < 18446744073709551616) (hl : l < 18446744073709551616) (hk : k ≤ 63) (hgap : min gap 127 = ((64 + k : Nat) : Int)) (hgb : gap ≤ 9223372036854775807) :
    Calls Try.prog 80 #[.agg #[.bool s, .int .u64 (h : Int), .int .u64 (l : Int), .int .i64 x], .int .i64 gap] w fun e W' => e = .returned (.tuple #[.int .u64 0, .int .u64 ((h / 2 ^ k : Nat) : Int), .bool (decide ((h * 18446744073709551616 + l) % 2 ^ (64 + k) ≠ 0))]) ∧ Below w.heap.size w W' := by
  have hbx := bk_new w #[.bool s, .int .u64 (h : Int), .int .u64 (l : Int), .int .i64 x] 74
  obtain ⟨u, hu⟩ : ∃ u, u = 64 - k := ⟨_, rfl⟩
  obtain ⟨_, t2⟩ := two_far (h := h) (l := l) (k := k) (u := u) (by omega) hl
  have s1 := shr_any (x := h) hh k
  rw [Nat.min_eq_left (by omega)] at s1
  have s3 := shl_any h u
  obtain ⟨q, hq⟩ : ∃ q : Int, ((64 + k : Nat) : Int) = q := ⟨_, rfl⟩
  rw [hq] at hgap
  have z1 : q - 64 = (k : Int) := by omega
  have z2 : (64 : Int) - (k : Int) = (u : Int) := by omega
  have d0 : decide (q < 64) = false := decide_eq_false (by omega)
  have hX : h * 2 ^ u % 18446744073709551616 ≤ 18446744073709551615 := by omega
  have hH : h / 2 ^ k ≤ 18446744073709551615 := Nat.le_trans (Nat.div_le_self _ _) (by omega)
  have hmore : decide ((h * 18446744073709551616 + l) % 2 ^ (64 + k) ≠ 0) = (((l : Int) != 0) || (((h * 2 ^ u % 18446744073709551616 : Nat) : Int) != 0)) := by
    rw [ne_zero_bool, ne_zero_bool, ← Bool.decide_or]
    exact decide_eq_decide.2 t2
  rw [hmore]
  have hki : (k : Int) ≤ 63 := by omega
  have hui : (u : Int) ≤ 64 := by omega
  have hq1 : 64 ≤ q := by omega
  have hq2 : q ≤ 127 := by omega
  clear hu hk hq hh t2 hmore
  generalize h * 2 ^ u % 18446744073709551616 = X at *
  generalize h / 2 ^ k = H at *
  by_cases h0 : l = 0
  · subst h0
    have e0 : (((0 : Nat) : Int) != 0) = false := rfl
    rw [e0, Bool.false_or]
    obtain ⟨m, hm⟩ : ∃ m, ((X : Int) != 0) = m := ⟨_, rfl⟩
    rw [hm]
    go_enter Try.func80, Try.ntmps80
    go_wp2_with fail
    obtain ⟨hB0, G, hsz⟩ := hbx _ rfl
    generalize (w.alloc (.cells #[.bool s, .int .u64 (h : Int), .int .u64 ((0 : Nat) : Int), .int .i64 x] 74)) = W0 at hB0 G hsz ⊢
    have c1 := G.cell (i := 1) rfl
    have c2 : W0.cell? ⟨w.heap.size, 2, none⟩ = some (.int .u64 0) := G.cell (i := 2) rfl
    go_wp2
    go_quiet (fail)
    go_wp2
    go_ret3
    exact ⟨rfl, below_both hB0 (below_drewN _ _ _)⟩
  · have e0 : ((l : Int) != 0) = true := by rw [ne_zero_bool, decide_eq_true h0]
    rw [e0, Bool.true_or]
    clear h0 hl
    go_enter Try.func80, Try.ntmps80
    go_wp2_with fail
    obtain ⟨hB0, G, hsz⟩ := hbx _ rfl
    generalize (w.alloc (.cells #[.bool s, .int .u64 (h : Int), .int .u64 (l : Int), .int .i64 x] 74)) = W0 at hB0 G hsz ⊢
    have c1 := G.cell (i := 1) rfl
    have c2 := G.cell (i := 2) rfl
    go_wp2
    go_quiet (fail)
    go_wp2
    go_ret3
    exact ⟨rfl, below_both hB0 (below_drewN _ _ _)⟩
/-- a number of 127 bits, shifted down -/
theorem ff_lower {s : Bool} {h l g : Nat} {x : Int} {w : World} (hh : h < 9223372036854775808) (hl : l < 18446744073709551616) (hg : g ≤ 1000000) :
    Calls Try.prog 80 #[.agg #[.bool s, .int .u64 (h : Int), .int .u64 (l : Int), .int .i64 x], .int .i64 (g : Int)] w fun e W' => ∃ H L : Nat, e = .returned (.tuple #[.int .u64 (H : Int), .int .u64 (L : Int), .bool (decide ((h * 18446744073709551616 + l) % 2 ^ g ≠ 0))]) ∧
      H ≤ 18446744073709551615 ∧ L ≤ 18446744073709551615 ∧ H * 18446744073709551616 + L = (h * 18446744073709551616 + l) / 2 ^ g ∧ Below w.heap.size w W' := by
  by_cases hn : g < 64
  · exact ff_low_near (by omega) hl hn
  · obtain ⟨k, hk⟩ : ∃ k, min g 127 = 64 + k := ⟨min g 127 - 64, by omega⟩
    have hlow := ff_low_far (s := s) (h := h) (l := l) (k := k) (x := x) (gap := (g : Int)) (w := w) (by omega) hl (by omega) (by omega) (by omega)
    obtain ⟨t1, _⟩ := two_far (h := h) (l := l) (k := k) (u := 64 - k) (by omega) hl
    have hN : h * 18446744073709551616 + l < 2 ^ 127 := by
      have h1 := Nat.mul_le_mul_right 18446744073709551616 (show h + 1 ≤ 9223372036854775808 from hh)
      rw [Nat.add_mul, Nat.one_mul] at h1
      exact Nat.lt_of_lt_of_le (Nat.add_lt_add_left hl _) h1
    have hsame : (h * 18446744073709551616 + l) / 2 ^ g = (h * 18446744073709551616 + l) / 2 ^ (64 + k) ∧ (h * 18446744073709551616 + l) % 2 ^ g = (h * 18446744073709551616 + l) % 2 ^ (64 + k) := by
      by_cases hgk : g = 64 + k
      · rw [hgk]; exact ⟨rfl, rfl⟩
      · have hk63 : 64 + k = 127 := by omega
        have hb1 : h * 18446744073709551616 + l < 2 ^ g := Nat.lt_of_lt_of_le hN (Nat.pow_le_pow_right (by decide) (by omega))
        rw [hk63, Nat.div_eq_of_lt hb1, Nat.div_eq_of_lt hN, Nat.mod_eq_of_lt hb1, Nat.mod_eq_of_lt hN]
        exact ⟨rfl, rfl⟩
    rw [hsame.1, hsame.2, t1]
    refine hlow.mono ?_
    rintro e W' ⟨rfl, hb⟩
    have hH : h / 2 ^ k ≤ 18446744073709551615 := Nat.le_trans (Nat.div_le_self _ _) (by omega)
    exact ⟨0, h / 2 ^ k, rfl, by omega, hH, by rw [Nat.zero_mul, Nat.zero_add], hb⟩
end Go.Proofs.Ytgobclmihppopab
