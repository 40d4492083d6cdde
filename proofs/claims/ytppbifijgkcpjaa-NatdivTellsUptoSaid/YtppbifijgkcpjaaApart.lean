/- vernierlaw01.alive; vernierlaw01.NatApart: true, whatever the two lists. -/
import Derived.Test.YtppbifijgkcpjaaSub
import Derived.Test.YtppbifijgkcpjaaAdd
import Derived.Test.YtppbifijgkcpjaaSame
namespace Go.Proofs.Ytppbifijgkcpjaa
open Go.RowKit Go.Shelf

theorem digs_length {B n k : Nat} (hB : 1 < B) (h : n < B ^ k) : (digs B n).length ≤ k := by
  induction k generalizing n with
  | zero =>
    have : n = 0 := by simpa using h
    subst this; rw [digs_zero]; simp
  | succ k ih =>
    by_cases hn : n = 0
    · subst hn; rw [digs_zero]; simp
    · rw [digs_pos hB hn, List.length_cons]
      have : n / B < B ^ k := by
        rw [Nat.div_lt_iff_lt_mul (by omega)]
        rwa [Nat.pow_succ] at h
      have := ih this
      omega
theorem digs_small {B n : Nat} (hB : 1 < B) (h0 : n ≠ 0) (h : n < B) : digs B n = [n] := by
  rw [digs_pos hB h0, Nat.mod_eq_of_lt h, Nat.div_eq_of_lt h, digs_zero]
theorem New.args {n : Nat} {W : World} {v : Value} {xs : List Nat} (h : New n W v xs) : ∃ S, S < W.heap.size ∧ RdAt S W v xs := by
  obtain ⟨S, h1, h2, _⟩ := h
  exact ⟨S, h2, h1⟩

set_option maxHeartbeats 1000000 in
theorem alive_calls (w : World) : Calls Try.prog 29 #[] w fun e w' => e = .returned (.bool true) ∧ Below w.heap.size w w' := by
  have r1 := (Row.new w .u64 38 [3]).alloc (.cells #[.int .u64 5] 38)
  have r2 := Row.new (w.alloc (.cells #[.int .u64 3] 38)) .u64 38 [5]
  have h1 : RdAt w.heap.size ((w.alloc (.cells #[.int .u64 3] 38)).alloc (.cells #[.int .u64 5] 38)) (.slice (some ⟨w.heap.size, 0, none⟩) 1 1) [3] := r1.rd 1 (by simp)
  have h2 : RdAt (w.heap.size + 1) ((w.alloc (.cells #[.int .u64 3] 38)).alloc (.cells #[.int .u64 5] 38)) (.slice (some ⟨w.heap.size + 1, 0, none⟩) 1 1) [5] := by
    have := r2.rd 1 (by simp)
    rw [World.size_alloc] at this
    exact this
  have H1 := Lib.hid h1
  have H2 := Lib.hid h2
  clear r1 r2 h1 h2
  go_enter Try.func29, Try.ntmps29
  go_wp2_with fail
  refine (sub_calls w.heap.size (w.heap.size + 1) _ _ [3] [5] (by simp) (by simp) (by intro x hx; simp at hx; omega) (by intro x hx; simp at hx; omega) _ (by simp; omega) (by simp) H1.out H2.out).mono ?_
  rintro e w1 ⟨v, S, rfl, hS1, hS2, hrd, hb⟩
  have hd : digs 18446744073709551616 (dist (val 18446744073709551616 [3]) (val 18446744073709551616 [5])) = [2] := by
    have : dist (val 18446744073709551616 [3]) (val 18446744073709551616 [5]) = 2 := by simp [val, dist]
    rw [this, digs_small (by decide) (by decide) (by decide)]
  rw [hd] at hrd
  rcases hrd with ⟨_, h⟩ | ⟨off, cap, rfl, hl, hc⟩
  · cases h
  · have hc0 : w1.cell? ⟨S, off, none⟩ = some (.int .u64 2) := hc 0 (by simp)
    have hbw : Below w.heap.size w w1 := (((Below.refl _ w).alloc (Nat.le_refl _) _).alloc (by simp) _).trans (hb.mono (by simp; omega))
    clear hc hd hb H1 H2
    simp only [List.length_cons, List.length_nil, Nat.zero_add]
    go_wp2
    go_ret
    exact ⟨rfl, hbw⟩
theorem cmpN_bounds (a b : Nat) : -1 ≤ cmpN a b ∧ cmpN a b ≤ 1 := by
  unfold cmpN
  by_cases h1 : a < b
  · simp [h1]
  · by_cases h2 : b < a <;> simp [h1, h2]
theorem cmpN_neg (a b : Nat) : cmpN a b = -cmpN b a := by
  unfold cmpN
  rcases Nat.lt_trichotomy a b with h | h | h
  · simp [h]; omega
  · subst h; simp
  · simp [h]; omega

/-- an argument: it reads as xs, below the heap's end -/
def Arg (w : World) (v : Value) (xs : List Nat) : Prop := ∃ b, b < w.heap.size ∧ RdAt b w v xs
theorem Arg.behind {w w' : World} {v : Value} {xs : List Nat} (h : Arg w v xs) (hb : Below w.heap.size w w') : Arg w' v xs := by
  obtain ⟨b, h1, h2⟩ := h
  exact ⟨b, Nat.lt_of_lt_of_le h1 hb.size, h2.kept (hb.block b h1)⟩
theorem New.arg {n : Nat} {W : World} {v : Value} {xs : List Nat} (h : New n W v xs) : Arg W v xs := by
  obtain ⟨S, h1, h2, _⟩ := h
  exact ⟨S, h2, h1⟩
theorem below_both {w w1 w2 : World} (h1 : Below w.heap.size w w1) (h2 : Below w1.heap.size w1 w2) : Below w.heap.size w w2 := h1.trans (h2.mono h1.size)

section
variable {va vb : Value} {xs ys : List Nat} {w : World}
theorem cmp_arg (hA : Arg w va xs) (hB : Arg w vb ys) (hxl : xs.length ≤ 17592186044416) (hyl : ys.length ≤ 17592186044416) (hx : Low 18446744073709551616 xs) (hy : Low 18446744073709551616 ys) :
    Calls Try.prog 23 #[va, vb] w fun e W' => e = .returned (.int .i64 (cmpN (val 18446744073709551616 xs) (val 18446744073709551616 ys))) ∧ Below w.heap.size w W' := by
  obtain ⟨ba, h1, h2⟩ := hA
  obtain ⟨bb, h3, h4⟩ := hB
  exact cmp_calls ba bb va vb xs ys (by omega) (by omega) hx hy w h1 h3 h2 h4
theorem sub_arg (hA : Arg w va xs) (hB : Arg w vb ys) (hxl : xs.length ≤ 17592186044416) (hyl : ys.length ≤ 17592186044416) (hx : Low 18446744073709551616 xs) (hy : Low 18446744073709551616 ys) :
    Calls Try.prog 19 #[va, vb] w fun e W' => ∃ v, e = .returned v ∧ New w.heap.size W' v (digs 18446744073709551616 (dist (val 18446744073709551616 xs) (val 18446744073709551616 ys))) ∧ Below w.heap.size w W' := by
  obtain ⟨ba, h1, h2⟩ := hA
  obtain ⟨bb, h3, h4⟩ := hB
  exact (sub_calls ba bb va vb xs ys hxl hyl hx hy w h1 h3 h2 h4).mono fun e W' ⟨v, S, he, hs1, hs2, hr, hb⟩ => ⟨v, he, ⟨S, hr, hs2, .inr hs1⟩, hb⟩
theorem add_arg (hA : Arg w va xs) (hB : Arg w vb ys) (hxl : xs.length ≤ 17592186044416) (hyl : ys.length ≤ 17592186044416) (hx : Low 18446744073709551616 xs) (hy : Low 18446744073709551616 ys) :
    Calls Try.prog 16 #[va, vb] w fun e W' => ∃ v, e = .returned v ∧ New w.heap.size W' v (digs 18446744073709551616 (val 18446744073709551616 xs + val 18446744073709551616 ys)) ∧ Below w.heap.size w W' := by
  obtain ⟨ba, h1, h2⟩ := hA
  obtain ⟨bb, h3, h4⟩ := hB
  exact (add_calls ba bb va vb xs ys hxl hyl hx hy w h1 h3 h2 h4).mono fun e W' ⟨v, S, he, hs1, hs2, hr, hb⟩ => ⟨v, he, ⟨S, hr, hs2, .inr hs1⟩, hb⟩
theorem norm_arg (hA : Arg w va xs) (hxl : xs.length ≤ 17592186044416) (hx : Low 18446744073709551616 xs) :
    Calls Try.prog 28 #[va] w fun e W' => ∃ v, e = .returned v ∧ New w.heap.size W' v (digs 18446744073709551616 (val 18446744073709551616 xs)) ∧ Below w.heap.size w W' := by
  obtain ⟨ba, h1, h2⟩ := hA
  rw [← cutz_eq_digs (by decide) hx]
  exact norm_calls ba va xs hxl w h1 h2
theorem same_arg (hA : Arg w va xs) (hB : Arg w vb xs) (hxl : xs.length ≤ 9223372036854775806) :
    Calls Try.prog 15 #[va, vb] w fun e W' => e = .returned (.bool true) ∧ Below w.heap.size w W' := by
  obtain ⟨ba, h1, h2⟩ := hA
  obtain ⟨bb, h3, h4⟩ := hB
  exact same_true ba bb va vb xs hxl w h2 h4
end
theorem Arg.slice {w : World} {v : Value} {xs : List Nat} (h : Arg w v xs) : ∃ a cap, v = .slice a xs.length cap := by
  obtain ⟨b, _, h⟩ := h
  obtain ⟨a, cap, e, _⟩ := h.slice
  exact ⟨a, cap, e⟩

set_option maxHeartbeats 1000000 in
theorem apart_walk (va vb : Value) (xs ys : List Nat) (w : World) (hA : Arg w va xs) (hB : Arg w vb ys) (hxl : xs.length ≤ 17592186044415) (hyl : ys.length ≤ 17592186044415) (hx : Low 18446744073709551616 xs) (hy : Low 18446744073709551616 ys) :
    Calls Try.prog 5 #[va, vb] w fun e W' => e = .returned (.bool true) ∧ Below w.heap.size w W' := by
  obtain ⟨a, cap, rfl⟩ := hA.slice
  obtain ⟨b, cbp, rfl⟩ := hB.slice
  have hvx := val_lt hx (by decide)
  have hvy := val_lt hy (by decide)
  have hc1 := cmpN_bounds (val 18446744073709551616 xs) (val 18446744073709551616 ys)
  have hc2 := cmpN_bounds (val 18446744073709551616 ys) (val 18446744073709551616 xs)
  have hc3 : Hid ((cmpN (val 18446744073709551616 xs) (val 18446744073709551616 ys) == -cmpN (val 18446744073709551616 ys) (val 18446744073709551616 xs)) = true) := Lib.hid (by rw [cmpN_neg]; simp)
  have hdl : (digs 18446744073709551616 (dist (val 18446744073709551616 xs) (val 18446744073709551616 ys))).length ≤ 17592186044415 := by
    have : dist (val 18446744073709551616 xs) (val 18446744073709551616 ys) < 18446744073709551616 ^ xs.length ∨ dist (val 18446744073709551616 xs) (val 18446744073709551616 ys) < 18446744073709551616 ^ ys.length := by unfold dist; omega
    rcases this with h | h
    · exact Nat.le_trans (digs_length (by decide) h) hxl
    · exact Nat.le_trans (digs_length (by decide) h) hyl
  have hdlow := digs_low (B := 18446744073709551616) (by decide) (dist (val 18446744073709551616 xs) (val 18446744073709551616 ys))
  have hdv := Lib.hid (val_digs (B := 18446744073709551616) (by decide) (dist (val 18446744073709551616 xs) (val 18446744073709551616 ys)))
  clear hvx hvy
  by_cases hgt : val 18446744073709551616 ys < val 18446744073709551616 xs
  all_goals
    have hHG := Lib.hid hgt
    clear hgt
    go_enter Try.func5, Try.ntmps5
    go_wp2_with fail
    refine (alive_calls w).mono ?_
    rintro e w1 ⟨rfl, b1⟩
    go_wp2_with fail
    have hA1 := hA.behind b1
    have hB1 := hB.behind b1
    refine (cmp_arg hA1 hB1 (by omega) (by omega) hx hy).mono ?_
    rintro e w2 ⟨rfl, b2⟩
  · have hd : 0 < cmpN (val 18446744073709551616 xs) (val 18446744073709551616 ys) := by rw [cmpN_gt hHG.out]; decide
    have hA2 := hA1.behind b2
    have hB2 := hB1.behind b2
    go_wp2_with fail
    refine (sub_arg hA2 hB2 (by omega) (by omega) hx hy).mono ?_
    rintro e w3 ⟨v3, rfl, n3, b3⟩
    have hA3 := hA2.behind b3
    have hB3 := hB2.behind b3
    go_wp2_with fail
    refine (add_arg hB3 n3.arg (by omega) (by omega) hy hdlow).mono ?_
    rintro e w4 ⟨v4, rfl, n4, b4⟩
    rw [hdv.out, show val 18446744073709551616 ys + dist (val 18446744073709551616 xs) (val 18446744073709551616 ys) = val 18446744073709551616 xs from by have := hHG.out; unfold dist; omega] at n4
    have hA4 := hA3.behind b4
    have hB4 := hB3.behind b4
    go_wp2_with fail
    refine (norm_arg hA4 (by omega) hx).mono ?_
    rintro e w5 ⟨v5, rfl, n5, b5⟩
    have n4' := n4.behind b5
    have hA5 := hA4.behind b5
    have hB5 := hB4.behind b5
    have hl5 : (digs 18446744073709551616 (val 18446744073709551616 xs)).length ≤ 9223372036854775806 := Nat.le_trans (digs_length (by decide) (val_lt hx (by decide))) (by omega)
    go_wp2_with fail
    refine (same_arg n4'.arg n5.arg hl5).mono ?_
    rintro e w6 ⟨rfl, b6⟩
    have hA6 := hA5.behind b6
    have hB6 := hB5.behind b6
    go_wp2_with fail
    refine (cmp_arg hA6 hB6 (by omega) (by omega) hx hy).mono ?_
    rintro e w7 ⟨rfl, b7⟩
    have hA7 := hA6.behind b7
    have hB7 := hB6.behind b7
    go_wp2_with fail
    refine (cmp_arg hB7 hA7 (by omega) (by omega) hy hx).mono ?_
    rintro e w8 ⟨rfl, b8⟩
    have hc3' := hc3.out
    go_wp2_with fail
    go_ret
    exact ⟨rfl, below_both (below_both (below_both (below_both (below_both (below_both (below_both b1 b2) b3) b4) b5) b6) b7) b8⟩
  · have hd : cmpN (val 18446744073709551616 xs) (val 18446744073709551616 ys) ≤ 0 := by have := hHG.out; unfold cmpN; by_cases h : val 18446744073709551616 xs < val 18446744073709551616 ys <;> simp [h, this]
    have hA2 := hA1.behind b2
    have hB2 := hB1.behind b2
    go_wp2_with fail
    refine (sub_arg hA2 hB2 (by omega) (by omega) hx hy).mono ?_
    rintro e w3 ⟨v3, rfl, n3, b3⟩
    have hA3 := hA2.behind b3
    have hB3 := hB2.behind b3
    go_wp2_with fail
    refine (add_arg hA3 n3.arg (by omega) (by omega) hx hdlow).mono ?_
    rintro e w4 ⟨v4, rfl, n4, b4⟩
    rw [hdv.out, show val 18446744073709551616 xs + dist (val 18446744073709551616 xs) (val 18446744073709551616 ys) = val 18446744073709551616 ys from by have := hHG.out; unfold dist; omega] at n4
    have hA4 := hA3.behind b4
    have hB4 := hB3.behind b4
    go_wp2_with fail
    refine (norm_arg hB4 (by omega) hy).mono ?_
    rintro e w5 ⟨v5, rfl, n5, b5⟩
    have n4' := n4.behind b5
    have hA5 := hA4.behind b5
    have hB5 := hB4.behind b5
    have hl5 : (digs 18446744073709551616 (val 18446744073709551616 ys)).length ≤ 9223372036854775806 := Nat.le_trans (digs_length (by decide) (val_lt hy (by decide))) (by omega)
    go_wp2_with fail
    refine (same_arg n4'.arg n5.arg hl5).mono ?_
    rintro e w6 ⟨rfl, b6⟩
    have hA6 := hA5.behind b6
    have hB6 := hB5.behind b6
    go_wp2_with fail
    refine (cmp_arg hA6 hB6 (by omega) (by omega) hx hy).mono ?_
    rintro e w7 ⟨rfl, b7⟩
    have hA7 := hA6.behind b7
    have hB7 := hB6.behind b7
    go_wp2_with fail
    refine (cmp_arg hB7 hA7 (by omega) (by omega) hy hx).mono ?_
    rintro e w8 ⟨rfl, b8⟩
    have hc3' := hc3.out
    go_wp2_with fail
    go_ret
    exact ⟨rfl, below_both (below_both (below_both (below_both (below_both (below_both (below_both b1 b2) b3) b4) b5) b6) b7) b8⟩
end Go.Proofs.Ytppbifijgkcpjaa
