/- parts.Wide: what it keeps. -/
import Derived.Test.YtgobclmihppopabFvWideNum
import Derived.Test.YtgobclmihppopabPaSpec
import Derived.Test.YtgobclmihppopabNums
import Derived.Laws.CopyOwn
import Derived.Deep.RegionLaw
import Derived.BigRegion
import Derived.Lib.Hide
namespace Go.Proofs.Ytgobclmihppopab
open Go.RowKit Go.Shelf

theorem arr_new (w : World) (c : Array Value) (t : TypeId) (W : World) (h : W = w.alloc (.cells c t)) : Below w.heap.size w W ∧ W.heap[w.heap.size]? = some (.cells c t (0, 0)) := by
  subst h
  exact ⟨(Below.refl w.heap.size w).alloc (Nat.le_refl _) _, World.alloc_heap_new w _⟩
set_option maxRecDepth 100000 in
set_option maxHeartbeats 4000000 in
theorem wide_two {s : Bool} {b off m cap M B k : Nat} {xs : List Nat} {x mode : Int} {w : World} (hb : b < w.heap.size) (hR : RdAt b w (.slice (some ⟨b, off, none⟩) m cap) xs) (hl : Low 18446744073709551616 xs) (hM : val 18446744073709551616 xs = M) (hm : xs.length = m) (h1 : m ≤ 1024) (x1 : -16384 ≤ x) (x2 : x ≤ 16384) (hB : nbits M = B) (hu : (B + 63) / 64 = k + 2) (hcap : m ≤ cap) :
    Calls Try.prog 69 #[.bool s, .slice (some ⟨b, off, none⟩) m cap, .int .i64 x, .int .i64 mode] w fun e W' => e = .returned (.tuple #[.int .u64 ((rnd s M 1 x mode).1 : Int), .int .i64 ((rnd s M 1 x mode).2 : Int), .int .i64 0]) ∧ Below w.heap.size w W' := by
  obtain ⟨u1, u2⟩ := used_two (M := M) (k := k) (by rw [hB]; exact hu)
  obtain ⟨t1, t2, t3, t4⟩ := top_two hl hM u1 u2
  have hb1 : ∀ u, Below w.heap.size w u → Calls Try.prog 92 #[.slice (some ⟨b, off, none⟩) m cap] u fun e W' => e = .returned (.int .i64 (B : Int)) ∧ Below u.heap.size u W' := by
    intro u hw
    subst hB
    exact bits_num ⟨xs, ⟨b, Nat.lt_of_lt_of_le hb hw.size, hR.kept (hw.block b hb)⟩, hl, hM, Nat.le_refl _⟩ (by omega)
  obtain ⟨r, hr⟩ : ∃ r, r = val 18446744073709551616 (xs.take k) := ⟨_, rfl⟩
  have hb2 : ∀ u, Below w.heap.size w u → Calls Try.prog 92 #[.slice (some ⟨b, off, none⟩) k cap] u fun e W' => e = .returned (.int .i64 (nbits r : Int)) ∧ Below u.heap.size u W' := by
    intro u hu
    subst hr
    have hR2 : RdAt b w (.slice (some ⟨b, off, none⟩) xs.length cap) xs := by rw [hm]; exact hR
    exact bits_num ⟨xs.take k, ⟨b, Nat.lt_of_lt_of_le hb hu.size, (hR2.take (by omega)).kept (hu.block b hb)⟩, fun y hy => hl y (List.mem_of_mem_take hy), rfl, Nat.le_refl _⟩ (by rw [List.length_take]; omega)
  have ha := hR.cell (j := k) (by omega)
  have hc := hR.cell (j := k + 1) (by omega)
  have hy := lim_lt hl (by decide : 0 < 18446744073709551616) k
  have hz := lim_lt hl (by decide : 0 < 18446744073709551616) (k + 1)
  rw [← hr] at t2 t3
  have hw := wide_is (neg := s) (hi := lim xs (k + 1)) (lo := lim xs k) (k := k) (r := r) (x := x) (mode := mode) t4 (by rw [← words_pow]; exact t3) x1 x2
  rw [← words_pow, ← t2] at hw
  have hrb : nbits r ≤ 64 * k := nbits_le (by rw [← words_pow]; exact t3)
  have t1' : k ≤ 1022 := by omega
  have hrd := fun u => pround (neg := s) (hi := lim xs (k + 1)) (lo := lim xs k) (exp := x + 64 * (k : Int)) (more := decide (0 < r)) (mode := mode) (w := u) (by omega) (by omega) (by omega) (by omega)
  rw [hw] at hrd
  have hmore : decide (0 < nbits r) = decide (0 < r) := by
    refine decide_eq_decide.2 ⟨fun h => ?_, fun h => ?_⟩
    · refine Nat.pos_of_ne_zero fun h0 => ?_
      rw [h0, nbits_zero] at h
      omega
    · have := (nbits_bounds (Nat.ne_of_gt h)).1
      omega
  have HW := Lib.hid hmore
  generalize nbits r = br at *
  generalize rnd s M 1 x mode = P at *
  generalize lim xs k = y at *
  generalize lim xs (k + 1) = z at *
  generalize decide (0 < r) = more at *
  clear t2 t3 t4 u1 u2 hw hR hl hM hB hr hmore
  have hyi : (y : Int) ≤ 18446744073709551615 := by omega
  have hzi : (z : Int) ≤ 18446744073709551615 := by omega
  have q2 : ((B : Int) + 63) / 64 = (k : Int) + 2 := by omega
  have q3 : B ≤ 65536 := by omega
  have q4 : k + 2 ≤ m := by omega
  have d1 : decide ((m : Int) > 1024) = false := decide_eq_false (by omega)
  have d2 : decide (x < -32768) = false := decide_eq_false (by omega)
  have d3 : decide (x > 32768) = false := decide_eq_false (by omega)
  have d4 : decide ((1024 : Int) < (m : Int)) = false := decide_eq_false (by omega)
  have d5 : decide ((32768 : Int) < x) = false := decide_eq_false (by omega)
  clear hu hy hz hm t1
  go_enter Try.func69, Try.ntmps69
  go_wp2_with fail
  refine (hb1 _ (Below.refl _ _)).mono ?_
  rintro e w1 ⟨rfl, b1⟩
  clear hb1
  go_upto_region 6 with (fail)
  have hbx := arr_new w1 #[.int .u64 0, .int .u64 0] 108 _ rfl
  obtain ⟨hB0, G⟩ := hbx
  replace hB0 := below_both b1 hB0
  generalize (w1.alloc (.cells #[.int .u64 0, .int .u64 0] 108)) = W0 at hB0 G ⊢
  have ka := (hB0.cell (p := ⟨b, off + k, none⟩) hb).trans ha
  have kc := (hB0.cell (p := ⟨b, off + (k + 1), none⟩) hb).trans hc
  have g0 := cell_of_row W0 _ 0 _ _ (0, 0) G
  have g1 := cell_of_row W0 _ 1 _ _ (0, 0) G
  have f0 : W0.frozen? ⟨w1.heap.size, 0, none⟩ = false := by simp [World.frozen?, G]
  have f1 : W0.frozen? ⟨w1.heap.size, 1, none⟩ = false := by simp [World.frozen?, G]
  have e2 : k + 2 - k = 2 := by omega
  have v1 : (0 : Int) ≤ (k : Int) + 2 := by omega
  have v2 : (k : Int) + 2 ≤ (cap : Int) := by omega
  have v3 : ¬ cap = k := by omega
  have e3 : ((k : Int) + 2).toNat = k + 2 := by omega
  have kk : ∀ j v, [Value.int .u64 (y : Int), Value.int .u64 (z : Int)][j]? = some v → W0.drew.cell? (Addr.add ⟨b, off + k, none⟩ j) = some v := by
    intro j v hv
    match j, hv with
    | 0, hv => simp only [List.getElem?_cons_zero, Option.some.injEq] at hv; subst hv; exact ka
    | 1, hv => simp only [List.getElem?_cons_succ, List.getElem?_cons_zero, Option.some.injEq] at hv; subst hv; exact kc
    | (n + 2), hv => simp at hv
  have hKK := Lib.hid kk
  have hGd : W0.drew.heap[w1.heap.size]? = some (.cells [Value.int .u64 0, Value.int .u64 0].toArray 108 (0, 0)) := G
  have hGG := Lib.hid hGd
  have hBd := Lib.hid hB0.drew
  have hle := Lib.hid b1.size
  clear kk hGd
  go_region_law (refine step_copy_splice rfl (.tmp 35) (.tmp 39) 34 34 rfl 22 (by kernel_rfl) (by kernel_rfl) (some ⟨w1.heap.size, 0, none⟩) (some ⟨b, off + k, none⟩) 2 2 2 (cap - k) (by simp [Act.eval, Act.put]) (by simp [Act.eval, Act.put, e2]) w1.heap.size 0 [.int .u64 0, .int .u64 0] 108 hGG.out [.int .u64 (y : Int), .int .u64 (z : Int)] rfl (fun _ => ⟨rfl, _, rfl, hKK.out⟩) (Nat.le_refl 2) (by intro v hv; simp only [List.mem_cons, List.not_mem_nil, or_false] at hv; rcases hv with rfl | rfl <;> rfl) w.heap.size w hBd.out hle.out ?_; intro w4 hg4 hb4)
  all_goals
    have G4 : w4.heap[w1.heap.size]? = some (.cells #[.int .u64 (y : Int), .int .u64 (z : Int)] 108 (0, 0)) := hg4.out
    clear hg4 ka kc g0 g1 f0 f1 G ha hc hKK hGG hBd hB0
    have hbx := fun u (h : Below w4.heap.size w4 u) => (h.block _ (Array.getElem?_eq_some_iff.1 G4).1).trans G4
    have l1 : (0 : Int) ≤ (k : Int) := by omega
    have l2 : (k : Int) ≤ (cap : Int) := by omega
    have l3 : k ≤ cap := by omega
    have q5 : br ≤ 65536 := by omega
    go_wp2_with fail
    refine (hb2 _ hb4).mono ?_
    rintro e w5 ⟨rfl, b5⟩
    have G5 := hbx _ b5
    replace hb4 := below_both hb4 b5
    have k0 := cell_of_row w5 _ 0 _ _ (0, 0) G5
    have k1 := cell_of_row w5 _ 1 _ _ (0, 0) G5
    simp only [List.getElem?_toArray, List.getElem?_cons_zero, List.getElem?_cons_succ] at k0 k1
    clear hb2 hbx G4 b5
    go_wp2_with fail
    rw [HW.out]
    refine (hrd _).mono ?_
    rintro e w6 ⟨rfl, b6⟩
    go_wp2
    go_ret3
    exact ⟨rfl, below_both hb4 b6⟩
set_option maxRecDepth 100000 in
set_option maxHeartbeats 4000000 in
theorem wide_one {s : Bool} {b off m cap M B : Nat} {xs : List Nat} {x mode : Int} {w : World} (hb : b < w.heap.size) (hR : RdAt b w (.slice (some ⟨b, off, none⟩) m cap) xs) (hl : Low 18446744073709551616 xs) (hM : val 18446744073709551616 xs = M) (hm : xs.length = m) (h1 : m ≤ 1024) (x1 : -16384 ≤ x) (x2 : x ≤ 16384) (hB : nbits M = B) (hu : (B + 63) / 64 = 1) (hcap : m ≤ cap) :
    Calls Try.prog 69 #[.bool s, .slice (some ⟨b, off, none⟩) m cap, .int .i64 x, .int .i64 mode] w fun e W' => e = .returned (.tuple #[.int .u64 ((rnd s M 1 x mode).1 : Int), .int .i64 ((rnd s M 1 x mode).2 : Int), .int .i64 0]) ∧ Below w.heap.size w W' := by
  obtain ⟨u1, u2⟩ := used_one (M := M) (by rw [hB]; exact hu)
  obtain ⟨t1, t2⟩ := top_one hl hM u1 u2
  have hb1 : ∀ u, Below w.heap.size w u → Calls Try.prog 92 #[.slice (some ⟨b, off, none⟩) m cap] u fun e W' => e = .returned (.int .i64 (B : Int)) ∧ Below u.heap.size u W' := by
    intro u hw
    subst hB
    exact bits_num ⟨xs, ⟨b, Nat.lt_of_lt_of_le hb hw.size, hR.kept (hw.block b hb)⟩, hl, hM, Nat.le_refl _⟩ (by omega)
  have hb2 : ∀ u, Below w.heap.size w u → Calls Try.prog 92 #[.slice (some ⟨b, off, none⟩) 0 cap] u fun e W' => e = .returned (.int .i64 0) ∧ Below u.heap.size u W' := by
    intro u hw
    exact bits_num (M := 0) ⟨[], ⟨b, Nat.lt_of_lt_of_le hb hw.size, .inl ⟨⟨_, _, rfl⟩, rfl⟩⟩, fun y hy => (by cases hy), rfl, Nat.le_refl 0⟩ (by omega)
  have ha := hR.cell (j := 0) (by omega)
  rw [t2, Nat.add_zero] at ha
  have hw := prnd_plain (neg := s) (hi := 0) (lo := M) (exp := x) (mode := mode) (by omega) x1 x2
  rw [Nat.zero_mul, Nat.zero_add] at hw
  have hrd := fun u => pround (neg := s) (hi := 0) (lo := M) (exp := x) (more := false) (mode := mode) (w := u) (by omega) (by omega) (by omega) (by omega)
  rw [hw, show ((0 : Nat) : Int) = 0 from rfl] at hrd
  generalize rnd s M 1 x mode = P at *
  have hyi : (M : Int) ≤ 18446744073709551615 := by omega
  clear u1 t2 hw hR hl hM hB u2
  have q2 : ((B : Int) + 63) / 64 = 1 := by omega
  have q3 : B ≤ 65536 := by omega
  have q4 : 1 ≤ m := by omega
  have d1 : decide ((m : Int) > 1024) = false := decide_eq_false (by omega)
  have d2 : decide (x < -32768) = false := decide_eq_false (by omega)
  have d3 : decide (x > 32768) = false := decide_eq_false (by omega)
  have d4 : decide ((1024 : Int) < (m : Int)) = false := decide_eq_false (by omega)
  have d5 : decide ((32768 : Int) < x) = false := decide_eq_false (by omega)
  clear hu hm t1
  go_enter Try.func69, Try.ntmps69
  go_wp2_with fail
  refine (hb1 _ (Below.refl _ _)).mono ?_
  rintro e w1 ⟨rfl, b1⟩
  clear hb1
  go_upto_region 6 with (fail)
  have hbx := arr_new w1 #[.int .u64 0, .int .u64 0] 108 _ rfl
  obtain ⟨hB0, G⟩ := hbx
  replace hB0 := below_both b1 hB0
  generalize (w1.alloc (.cells #[.int .u64 0, .int .u64 0] 108)) = W0 at hB0 G ⊢
  have ka := (hB0.cell (p := ⟨b, off, none⟩) hb).trans ha
  have v2 : (1 : Int) ≤ (cap : Int) := by omega
  have v4 : max (-1 : Int) 0 = 0 := rfl
  have kk : ∀ j v, [Value.int .u64 (M : Int)][j]? = some v → W0.drew.cell? (Addr.add ⟨b, off, none⟩ j) = some v := by
    intro j v hv
    match j, hv with
    | 0, hv => simp only [List.getElem?_cons_zero, Option.some.injEq] at hv; subst hv; exact ka
    | (n + 1), hv => simp at hv
  have hKK := Lib.hid kk
  have hGd : W0.drew.heap[w1.heap.size]? = some (.cells [Value.int .u64 0, Value.int .u64 0].toArray 108 (0, 0)) := G
  have hGG := Lib.hid hGd
  have hBd := Lib.hid hB0.drew
  have hle := Lib.hid b1.size
  clear kk hGd
  go_region_law (refine step_copy_splice rfl (.tmp 35) (.tmp 39) 34 34 rfl 22 (by kernel_rfl) (by kernel_rfl) (some ⟨w1.heap.size, 0, none⟩) (some ⟨b, off, none⟩) 2 2 1 cap (by simp [Act.eval, Act.put]) (by simp [Act.eval, Act.put]) w1.heap.size 0 [.int .u64 0, .int .u64 0] 108 hGG.out [.int .u64 (M : Int)] rfl (fun _ => ⟨rfl, _, rfl, hKK.out⟩) (Nat.le_succ 1) (by intro v hv; simp only [List.mem_cons, List.not_mem_nil, or_false] at hv; rcases hv with rfl; rfl) w.heap.size w hBd.out hle.out ?_; intro w4 hg4 hb4)
  all_goals
    have G4 : w4.heap[w1.heap.size]? = some (.cells #[.int .u64 (M : Int), .int .u64 0] 108 (0, 0)) := hg4.out
    clear hg4 ka G ha hKK hGG hBd hB0
    have hbx := fun u (h : Below w4.heap.size w4 u) => (h.block _ (Array.getElem?_eq_some_iff.1 G4).1).trans G4
    go_wp2_with fail
    refine (hb2 _ hb4).mono ?_
    rintro e w5 ⟨rfl, b5⟩
    have G5 := hbx _ b5
    replace hb4 := below_both hb4 b5
    have k0 := cell_of_row w5 _ 0 _ _ (0, 0) G5
    have k1 := cell_of_row w5 _ 1 _ _ (0, 0) G5
    simp only [List.getElem?_toArray, List.getElem?_cons_zero, List.getElem?_cons_succ] at k0 k1
    clear hb2 hbx G4 b5
    go_wp2_with fail
    refine (hrd _).mono ?_
    rintro e w6 ⟨rfl, b6⟩
    go_wp2
    go_ret3
    exact ⟨rfl, below_both hb4 b6⟩
set_option maxRecDepth 100000 in
set_option maxHeartbeats 4000000 in
theorem wide_none {s : Bool} {b m cap : Nat} {a : Option Addr} {xs : List Nat} {x mode : Int} {w : World} (hb : b < w.heap.size) (hR : RdAt b w (.slice a m cap) xs) (hl : Low 18446744073709551616 xs) (hM : val 18446744073709551616 xs = 0) (hm : xs.length = m) (h1 : m ≤ 1024) (x1 : -16384 ≤ x) (x2 : x ≤ 16384) (hcap : m ≤ cap) :
    Calls Try.prog 69 #[.bool s, .slice a m cap, .int .i64 x, .int .i64 mode] w fun e W' => e = .returned (.tuple #[.int .u64 (sgn s : Int), .int .i64 0, .int .i64 0]) ∧ Below w.heap.size w W' := by
  have hb1 : ∀ u, Below w.heap.size w u → Calls Try.prog 92 #[.slice a m cap] u fun e W' => e = .returned (.int .i64 0) ∧ Below u.heap.size u W' := by
    intro u hw
    exact bits_num (M := 0) ⟨xs, ⟨b, Nat.lt_of_lt_of_le hb hw.size, hR.kept (hw.block b hb)⟩, hl, hM, Nat.le_refl _⟩ (by omega)
  have hb2 : ∀ u, Below w.heap.size w u → Calls Try.prog 92 #[.slice a 0 cap] u fun e W' => e = .returned (.int .i64 0) ∧ Below u.heap.size u W' := by
    intro u hw
    exact bits_num (M := 0) ⟨[], ⟨b, Nat.lt_of_lt_of_le hb hw.size, .inl ⟨⟨_, _, rfl⟩, rfl⟩⟩, fun y hy => (by cases hy), rfl, Nat.le_refl 0⟩ (by omega)
  have hrd := fun u => pround (neg := s) (hi := 0) (lo := 0) (exp := x) (more := false) (mode := mode) (w := u) (by decide) (by decide) (by omega) (by omega)
  have hw : prnd s 0 0 x false mode = (sgn s, 0) := by unfold prnd; rw [Nat.zero_mul, if_pos rfl]
  rw [hw, show ((0 : Nat) : Int) = 0 from rfl] at hrd
  dsimp only at hrd
  clear hw hR hl hM hm
  have v4 : max (-2 : Int) 0 = 0 := rfl
  have v5 : a.map (fun x => x.add 0) = a := by cases a <;> rfl
  have d1 : decide ((m : Int) > 1024) = false := decide_eq_false (by omega)
  have d2 : decide (x < -32768) = false := decide_eq_false (by omega)
  have d3 : decide (x > 32768) = false := decide_eq_false (by omega)
  have d4 : decide ((1024 : Int) < (m : Int)) = false := decide_eq_false (by omega)
  have d5 : decide ((32768 : Int) < x) = false := decide_eq_false (by omega)
  go_enter Try.func69, Try.ntmps69
  go_wp2_with fail
  refine (hb1 _ (Below.refl _ _)).mono ?_
  rintro e w1 ⟨rfl, b1⟩
  clear hb1
  go_upto_region 6 with (fail)
  have hbx := arr_new w1 #[.int .u64 0, .int .u64 0] 108 _ rfl
  obtain ⟨hB0, G⟩ := hbx
  replace hB0 := below_both b1 hB0
  generalize (w1.alloc (.cells #[.int .u64 0, .int .u64 0] 108)) = W0 at hB0 G ⊢
  have hGd : W0.drew.heap[w1.heap.size]? = some (.cells [Value.int .u64 0, Value.int .u64 0].toArray 108 (0, 0)) := G
  have hGG := Lib.hid hGd
  have hBd := Lib.hid hB0.drew
  have hle := Lib.hid b1.size
  clear hGd
  go_region_law (refine step_copy_splice rfl (.tmp 35) (.tmp 39) 34 34 rfl 22 (by kernel_rfl) (by kernel_rfl) (some ⟨w1.heap.size, 0, none⟩) a 2 2 0 cap (by simp [Act.eval, Act.put]) (by simp [Act.eval, Act.put]) w1.heap.size 0 [.int .u64 0, .int .u64 0] 108 hGG.out [] rfl (fun h => absurd h (Nat.lt_irrefl 0)) (Nat.zero_le 2) (by intro v hv; cases hv) w.heap.size w hBd.out hle.out ?_; intro w4 hg4 hb4)
  all_goals
    have G4 : w4.heap[w1.heap.size]? = some (.cells #[.int .u64 0, .int .u64 0] 108 (0, 0)) := hg4.out
    clear hg4 G hGG hBd hB0
    have hbx := fun u (h : Below w4.heap.size w4 u) => (h.block _ (Array.getElem?_eq_some_iff.1 G4).1).trans G4
    go_wp2_with fail
    refine (hb2 _ hb4).mono ?_
    rintro e w5 ⟨rfl, b5⟩
    have G5 := hbx _ b5
    replace hb4 := below_both hb4 b5
    have k0 := cell_of_row w5 _ 0 _ _ (0, 0) G5
    have k1 := cell_of_row w5 _ 1 _ _ (0, 0) G5
    simp only [List.getElem?_toArray, List.getElem?_cons_zero, List.getElem?_cons_succ] at k0 k1
    clear hb2 hbx G4 b5
    go_wp2_with fail
    refine (hrd _).mono ?_
    rintro e w6 ⟨rfl, b6⟩
    go_wp2
    go_ret3
    exact ⟨rfl, below_both hb4 b6⟩
/-- all words of a number that may be, rounded -/
theorem pwide {s : Bool} {a : Option Addr} {m cap M i : Nat} {x mode : Int} {w : World} (hN : Num w (.slice a m cap) M i) (h1 : m ≤ 1024) (x1 : -16384 ≤ x) (x2 : x ≤ 16384) :
    Calls Try.prog 69 #[.bool s, .slice a m cap, .int .i64 x, .int .i64 mode] w fun e W' => ∃ z f : Nat, e = .returned (.tuple #[.int .u64 (z : Int), .int .i64 (f : Int), .int .i64 0]) ∧ (M = 0 → f = 0 ∧ (z = 0 ∨ z = 9223372036854775808)) ∧ (M ≠ 0 → rnd s M 1 x mode = (z, f)) ∧ Below w.heap.size w W' := by
  obtain ⟨xs, ⟨b, hb, hR⟩, hl, hM, _⟩ := hN
  obtain ⟨a', cap', hv, hcap, hsome⟩ := hR.slice
  simp only [Value.slice.injEq] at hv
  obtain ⟨rfl, hm, rfl⟩ := hv
  by_cases h0 : M = 0
  · subst h0
    refine (wide_none hb hR hl hM hm.symm h1 x1 x2 (by omega)).mono ?_
    rintro e W' ⟨rfl, hb⟩
    refine ⟨sgn s, 0, rfl, fun _ => ⟨rfl, ?_⟩, fun h => absurd rfl h, hb⟩
    cases s
    · exact .inl rfl
    · exact .inr rfl
  · have hx0 : 0 < xs.length := by
      refine Nat.pos_of_ne_zero fun hc => h0 ?_
      obtain rfl : xs = [] := List.eq_nil_of_length_eq_zero hc
      rw [← hM]; rfl
    obtain ⟨off, rfl⟩ := hsome hx0
    have hfin : Calls Try.prog 69 #[.bool s, .slice (some ⟨b, off, none⟩) m cap, .int .i64 x, .int .i64 mode] w fun e W' => e = .returned (.tuple #[.int .u64 ((rnd s M 1 x mode).1 : Int), .int .i64 ((rnd s M 1 x mode).2 : Int), .int .i64 0]) ∧ Below w.heap.size w W' := by
      obtain ⟨u, hu⟩ : ∃ u, (nbits M + 63) / 64 = u := ⟨_, rfl⟩
      match u, hu with
      | 0, hu => exact absurd (used_none hu) h0
      | 1, hu => exact wide_one hb hR hl hM hm.symm h1 x1 x2 rfl hu (by omega)
      | k + 2, hu => exact wide_two hb hR hl hM hm.symm h1 x1 x2 rfl hu (by omega)
    refine hfin.mono ?_
    rintro e W' ⟨rfl, hb⟩
    exact ⟨_, _, rfl, fun h => absurd h h0, fun _ => rfl, hb⟩
end Go.Proofs.Ytgobclmihppopab
