/- whole's Of; vernierlaw03's same, alive, parts, made. -/
import Derived.Test.YtppbifijgkcpjaaWholeFour
import Derived.Lib.Hide
import Derived.IntWalk
namespace Go.Proofs.Ytppbifijgkcpjaa
open Go.RowKit Go.Shelf
attribute [local go_sem ↓] Go.wp_at_zero Go.wp_at_succ

theorem num_one (W : World) (x : Nat) (hx : x < 18446744073709551616) : Num (W.alloc (.cells #[.int .u64 x] 38)) (.slice (some ⟨W.heap.size, 0, none⟩) 1 1) x 1 :=
  ⟨[x], ⟨W.heap.size, by simp, (Row.new W .u64 38 [x]).rd 1 (by simp)⟩, by intro y hy; simp at hy; omega, by simp [val], by simp⟩
theorem size_word (n : Int) (h1 : -9223372036854775808 ≤ n) (h2 : n < 9223372036854775808) (w : World) :
    Calls Try.prog 73 #[.bool (decide (n < 0)), .int .u64 (IntKind.u64.wrap (-IntKind.u64.wrap n)), .int .u64 (IntKind.u64.wrap n)] w fun e W' => e = .returned (.int .u64 (n.natAbs : Int)) ∧ w = W' := by
  refine (either_word _ _ _ w).mono fun e W' ⟨he, hw⟩ => ⟨?_, hw⟩
  rw [he]
  by_cases h : n < 0
  · rw [decide_eq_true h, if_pos rfl]
    refine ret_int ?_
    rw [IntKind.wrap_u64, IntKind.wrap_u64]; omega
  · rw [decide_eq_false h, if_neg (by simp)]
    refine ret_int ?_
    rw [IntKind.wrap_u64]; omega
theorem wn_of (n : Int) : wn (decide (n < 0)) n.natAbs = n := by
  unfold wn
  by_cases h : n < 0 <;> simp [h] <;> omega
set_option maxRecDepth 100000 in
theorem zof (n : Int) (h1 : -9223372036854775808 ≤ n) (h2 : n < 9223372036854775808) (w : World) :
    Calls Try.prog 49 #[.int .i64 n] w (WPost w n 1) := by
  have hn : n.natAbs < 18446744073709551616 := by omega
  have hB := bel_alloc w (.cells #[.bool false, .slice none 0 0] 53)
  have R := Bx.new w (.bool false) (.slice none 0 0)
  have hsz : w.heap.size < (w.alloc (.cells #[.bool false, .slice none 0 0] 53)).heap.size := by rw [World.size_alloc]; omega
  go_enter Try.func49, Try.ntmps49
  go_wp2_with fail
  generalize (w.alloc (.cells #[.bool false, .slice none 0 0] 53)) = W0 at hB R hsz ⊢
  refine (size_word n h1 h2 _).mono ?_
  rintro e w1 ⟨rfl, rfl⟩
  have hN := num_one W0 n.natAbs hn
  have b1 := bel_alloc W0 (.cells #[.int .u64 (n.natAbs : Int)] 38)
  have R1 := R.behind b1
  have B1 := below_both hB b1
  go_wp2_with fail
  generalize (W0.alloc (.cells #[.int .u64 (n.natAbs : Int)] 38)) = W1 at hN R1 B1 b1 ⊢
  refine (norm_num hN (by omega)).mono ?_
  rintro e w2 ⟨v, rfl, u2, n2, b2⟩
  have R2 := R1.behind b2
  have B2 := below_both B1 b2
  go_wp2_with fail
  refine (told_num n2).mono ?_
  rintro e w3 ⟨ta, tm, tc, rfl, nt, b3⟩
  have R3 := R2.behind b3
  have B3 := below_both B2 b3
  have r0 := R3.c0
  have r1 := R3.c1
  have r2 := R3.f 0
  have r3 := R3.f 1
  have z1 := b1.size
  rw [wn_of] at nt ⊢
  go_wp2_with fail
  exact bodyPost_ret (v := .agg #[.bool (decide (n < 0)), .slice ta tm tc]) (by simp [results, Try.results49, go_sem, r0, r1]) rfl (WPost.mk (by omega) (wend B3 (r := w.heap.size) (by omega) (by omega) nt (z := n) rfl))
theorem WNew.both {n : Nat} {w : World} {s : Bool} {v : Value} {z : Int} (h : WNew n w (.agg #[.bool s, v]) z) : s = decide (z < 0) ∧ New n w v (digs 18446744073709551616 z.natAbs) := by
  obtain ⟨u, h1, h2⟩ := h
  simp only [Value.agg.injEq, Array.mk.injEq, List.cons.injEq, Value.bool.injEq, and_true] at h1
  obtain ⟨rfl, rfl⟩ := h1
  exact ⟨rfl, h2⟩
set_option maxRecDepth 100000 in
theorem zsame {n n' K : Nat} {s t : Bool} {a a' : Option Addr} {m cap m' cap' : Nat} {x y : Int} {w : World} (hA : WNew n w (.agg #[.bool s, .slice a m cap]) x) (hB : WNew n' w (.agg #[.bool t, .slice a' m' cap']) y) (h : x = y) (hx : x.natAbs < 18446744073709551616 ^ K) (hK : K ≤ 9223372036854775806) :
    Calls Try.prog 41 #[.agg #[.bool s, .slice a m cap], .agg #[.bool t, .slice a' m' cap']] w fun e W' => e = .returned (.bool true) ∧ Below w.heap.size w W' := by
  subst h
  obtain ⟨rfl, nA⟩ := hA.both
  obtain ⟨rfl, nB⟩ := hB.both
  clear hA hB
  generalize decide (x < 0) = s
  have hb : ∀ (W : World), W = (w.alloc (.cells #[.bool s, .slice a m cap] 53)).alloc (.cells #[.bool s, .slice a' m' cap'] 53) → Below w.heap.size w W ∧ Bx W w.heap.size (.bool s) (.slice a m cap) ∧ Bx W (w.heap.size + 1) (.bool s) (.slice a' m' cap') := by
    rintro W rfl
    have h := boxes2 w (.bool s) (.slice a m cap) (.bool s) (.slice a' m' cap')
    exact ⟨h.1, h.2.1, h.2.2.1⟩
  go_enter Try.func41, Try.ntmps41
  go_wp2_with fail
  have hB := (hb _ rfl).1
  generalize (w.alloc (.cells #[.bool s, .slice a m cap] 53)).alloc (.cells #[.bool s, .slice a' m' cap'] 53) = W0 at hB ⊢
  refine (same_new (nA.behind hB) (nB.behind hB) rfl hx hK).mono ?_
  rintro e w1 ⟨rfl, b1⟩
  clear hb nA nB
  go_wp2_with fail
  go_ret
  exact ⟨rfl, below_both hB b1⟩
theorem New.one {n : Nat} {W : World} {a : Option Addr} {m cap x : Nat} (h : New n W (.slice a m cap) [x]) : ∃ S off, a = some ⟨S, off, none⟩ ∧ m = 1 ∧ W.cell? ⟨S, off, none⟩ = some (.int .u64 x) := by
  obtain ⟨S, h1, _⟩ := h
  rcases h1 with ⟨_, h⟩ | ⟨off, c, e, hl, hc⟩
  · cases h
  · cases e
    exact ⟨S, off, rfl, rfl, hc 0 (by simp)⟩
set_option maxRecDepth 100000 in
theorem walive (w : World) : Calls Try.prog 50 #[] w fun e W' => e = .returned (.bool true) ∧ Below w.heap.size w W' := by
  go_enter Try.func50, Try.ntmps50
  go_wp2_with fail
  refine (zof 3 (by decide) (by decide) w).mono ?_
  rintro e w1 ⟨s1, a1, m1, c1, rfl, h1, -, b1⟩
  go_wp2_with fail
  refine (zof 5 (by decide) (by decide) w1).mono ?_
  rintro e w2 ⟨s2, a2, m2, c2, rfl, h2, -, b2⟩
  have h1 := h1.behind b2
  have B2 := below_both b1 b2
  go_wp2_with fail
  refine (zsub h1 h2 (by omega) (by omega)).mono ?_
  rintro e w3 ⟨s3, a3, m3, c3, rfl, -, h3, b3⟩
  have B3 := below_both B2 b3
  obtain ⟨rfl, n3⟩ := h3.both
  clear h1 h2 h3 b1 b2 b3
  have hd : digs 18446744073709551616 ((3 - 5 : Int)).natAbs = [2] := digs_small (n := 2) (by decide) (by decide) (by decide)
  rw [hd] at n3
  have hneg : decide ((3 - 5 : Int) < 0) = true := rfl
  rw [hneg]
  clear hd hneg
  have b4 := bel_alloc w3 (.cells #[.bool true, .slice a3 m3 c3] 53)
  have n4 := n3.behind b4
  obtain ⟨S, off, rfl, rfl, hc⟩ := n4.one
  have B4 := below_both B3 b4
  clear n3 n4
  go_wp2
  go_ret
  exact ⟨rfl, B4⟩
/-- what is above 0 of a whole number, and what is below -/
def up (z : Int) : Nat := z.toNat
theorem up_of (s : Bool) (M : Nat) : up (wn s M) = if s then 0 else M := by cases s <;> simp [up, wn]
theorem up_neg (s : Bool) (M : Nat) : up (-wn s M) = if s then M else 0 := by cases s <;> simp [up, wn]
theorem rn_nil {w : World} (h : 0 < w.heap.size) : RN w (.slice none 0 0) 0 0 := by
  refine ⟨⟨0, h, ?_⟩, by simp⟩
  rw [digs_zero]
  exact .inl ⟨⟨_, _, rfl⟩, rfl⟩
set_option maxRecDepth 100000 in
theorem wparts {s : Bool} {a : Option Addr} {m cap : Nat} {x : Int} {i : Nat} {w : World} (hA : Wv w s a m cap x i) (hi : i ≤ 4398046511104) :
    Calls Try.prog 38 #[.agg #[.bool s, .slice a m cap]] w fun e W' => ∃ a1 m1 c1 a2 m2 c2, e = .returned (.tuple #[.slice a1 m1 c1, .slice a2 m2 c2]) ∧ RN W' (.slice a1 m1 c1) (up x) (4 * i) ∧ RN W' (.slice a2 m2 c2) (up (-x)) (4 * i) ∧ Below w.heap.size w W' := by
  obtain ⟨M, h1, rfl⟩ := hA
  have hB := bel_alloc w (.cells #[.bool s, .slice a m cap] 53)
  have G := Bx.new w (.bool s) (.slice a m cap)
  have hz : 0 < (w.alloc (.cells #[.bool s, .slice a m cap] 53)).heap.size := by rw [World.size_alloc]; omega
  have hA := h1.behind hB
  cases s
  all_goals
    go_enter Try.func38, Try.ntmps38
    go_wp2_with fail
    first
    | generalize (w.alloc (.cells #[.bool true, .slice a m cap] 53)) = W0 at hB G hA hz ⊢
    | generalize (w.alloc (.cells #[.bool false, .slice a m cap] 53)) = W0 at hB G hA hz ⊢
    refine (of_num hA hi).mono ?_
    rintro e w1 ⟨v, rfl, r1, b1⟩
    obtain ⟨xa, xc, rfl, hxc⟩ := r1.slice
    have hz1 : 0 < w1.heap.size := Nat.lt_of_lt_of_le hz b1.size
    have r0 : RN w1 (.slice none 0 0) 0 (4 * i) := ⟨(rn_nil hz1).1, Nat.pow_pos (by decide)⟩
    go_wp2_with fail
    go_ret2
    rw [up_of, up_neg]
    first
    | exact ⟨_, _, _, _, _, _, rfl, r1, r0, below_both hB b1⟩
    | exact ⟨_, _, _, _, _, _, rfl, r0, r1, below_both hB b1⟩
set_option maxRecDepth 100000 in
theorem wmade {va vb : Value} {P Q i j : Nat} {w : World} (hA : RN w va P i) (hB : RN w vb Q j) (hi : i ≤ 4398046511104) (hj : j ≤ 4398046511104) :
    Calls Try.prog 39 #[va, vb] w fun e W' => ∃ b a m c, e = .returned (.agg #[.bool b, .slice a m c]) ∧ WNew w.heap.size W' (.agg #[.bool b, .slice a m c]) ((P : Int) - Q) ∧ Below w.heap.size w W' := by
  have hW := bel_alloc w (.cells #[.bool false, .slice none 0 0] 53)
  have R := Bx.new w (.bool false) (.slice none 0 0)
  have hsz : w.heap.size < (w.alloc (.cells #[.bool false, .slice none 0 0] 53)).heap.size := by rw [World.size_alloc]; omega
  have rA := hA.behind hW
  have rB := hB.behind hW
  obtain ⟨xa, xc, rfl, hxc⟩ := hA.slice
  obtain ⟨ya, yc, rfl, hyc⟩ := hB.slice
  have hs : decide (cmpN P Q < 0) = decide ((P : Int) - Q < 0) := by
    unfold cmpN
    rw [decide_eq_decide]
    (repeat' split) <;> omega
  have hdd : dist P Q = ((P : Int) - Q).natAbs := by unfold dist; omega
  go_enter Try.func39, Try.ntmps39
  go_wp2_with fail
  generalize (w.alloc (.cells #[.bool false, .slice none 0 0] 53)) = W0 at hW R hsz rA rB ⊢
  refine (rcmp_num rA rB hi hj).mono ?_
  rintro e w1 ⟨rfl, b1⟩
  have rA := rA.behind b1
  have rB := rB.behind b1
  have R := R.behind b1
  have B1 := below_both hW b1
  go_wp2_with fail
  refine (rsub_num rA rB hi hj).mono ?_
  rintro e w2 ⟨v2, rfl, r2, b2⟩
  have R := R.behind b2
  have B2 := below_both B1 b2
  go_wp2_with fail
  refine (limbs_num r2 (by omega)).mono ?_
  rintro e w3 ⟨v3, rfl, n3, b3⟩
  have R := R.behind b3
  have B3 := below_both B2 b3
  obtain ⟨ta, tl, tc, rfl⟩ : ∃ a l c, v3 = .slice a l c := by
    obtain ⟨a, c, e, _⟩ := n3.slice
    exact ⟨a, _, c, e⟩
  have r0 := R.c0
  have r1 := R.c1
  have r2 := R.f 0
  have r3 := R.f 1
  have z1 := b1.size
  have z2 := b2.size
  rw [hdd] at n3
  clear hxc hyc hdd
  go_wp2_with fail
  exact bodyPost_ret (v := .agg #[.bool (decide ((P : Int) - Q < 0)), .slice ta tl tc]) (by simp [results, Try.results39, go_sem, r0, r1]) rfl (wend B3 (r := w.heap.size) (by omega) (by omega) n3 (z := (P : Int) - Q) rfl)
end Go.Proofs.Ytppbifijgkcpjaa
