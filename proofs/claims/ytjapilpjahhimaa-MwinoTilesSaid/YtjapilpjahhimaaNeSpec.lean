/- winograd: isSide, Fast, Need; need: Product, may, count, Muls, Adds: what the calls keep. -/
import Derived.Test.YtjapilpjahhimaaNeNum
import Derived.Test.YtjapilpjahhimaaOu
import Derived.Test.YtjapilpjahhimaaShSpec
import Derived.IntWalk
namespace Go.Proofs.Ytjapilpjahhimaa
open Go.RowKit Go.Shelf
def sideB (n : Int) : Bool := decide (1 ≤ n ∧ n ≤ 64)
theorem sideB_iff {n : Int} : sideB n = true ↔ 1 ≤ n ∧ n ≤ 64 := decide_eq_true_iff
theorem sideB_no {n : Int} : sideB n = false ↔ ¬ (1 ≤ n ∧ n ≤ 64) := decide_eq_false_iff_not
theorem wi_side {n : Int} {w : World} : Calls Try.prog 57 #[.int .i64 n] w fun e W' => e = .returned (.bool (sideB n)) ∧ w = W' := by
  by_cases k1 : 1 ≤ n
  · by_cases k2 : n ≤ 64
    · rw [show sideB n = true from decide_eq_true ⟨k1, k2⟩]
      go_enter Try.func57, Try.ntmps57
      go_wp2
      go_ret
      exact ⟨rfl, rfl⟩
    · rw [show sideB n = false from decide_eq_false (fun h => k2 h.2)]
      go_enter Try.func57, Try.ntmps57
      go_wp2
      go_ret
      exact ⟨rfl, rfl⟩
  · rw [show sideB n = false from decide_eq_false (fun h => k1 h.1)]
    go_enter Try.func57, Try.ntmps57
    go_wp2
    go_ret
    exact ⟨rfl, rfl⟩
theorem min_three (w : World) (ts : Array TypeId) (t : TypeId) (x y z : Int) : (Builtin.min_ ts t #[.int .i64 x, .int .i64 y, .int .i64 z]).run Try.prog w = .ok (.int .i64 (min (min x y) z)) w := by
  have e1 : min x y = if y < x then y else x := by split <;> omega
  have e2 : ∀ u : Int, min u z = if z < u then z else u := fun u => by split <;> omega
  rw [e2, e1]
  simp [Builtin.min_, Builtin.min2]
theorem max_two (w : World) (ts : Array TypeId) (t : TypeId) (x y : Int) : (Builtin.max_ ts t #[.int .i64 x, .int .i64 y]).run Try.prog w = .ok (.int .i64 (max x y)) w := by
  have e1 : max x y = if y > x then y else x := by split <;> omega
  rw [e1]
  simp [Builtin.max_, Builtin.max2]
theorem max_three (w : World) (ts : Array TypeId) (t : TypeId) (x y z : Int) : (Builtin.max_ ts t #[.int .i64 x, .int .i64 y, .int .i64 z]).run Try.prog w = .ok (.int .i64 (max (max x y) z)) w := by
  have e1 : max x y = if y > x then y else x := by split <;> omega
  have e2 : ∀ u : Int, max u z = if z > u then z else u := fun u => by split <;> omega
  rw [e2, e1]
  simp [Builtin.max_, Builtin.max2]
theorem max_four (w : World) (ts : Array TypeId) (t : TypeId) (x y z q : Int) : (Builtin.max_ ts t #[.int .i64 x, .int .i64 y, .int .i64 z, .int .i64 q]).run Try.prog w = .ok (.int .i64 (max (max (max x y) z) q)) w := by
  have e1 : max x y = if y > x then y else x := by split <;> omega
  have e2 : ∀ u : Int, max u z = if z > u then z else u := fun u => by split <;> omega
  have e3 : ∀ u : Int, max u q = if q > u then q else u := fun u => by split <;> omega
  rw [e3, e2, e1]
  simp [Builtin.max_, Builtin.max2]
theorem wi_fast {m k n c : Nat} {w : World} : Calls Try.prog 26 #[.int .i64 (m : Int), .int .i64 (k : Int), .int .i64 (n : Int), .int .i64 (c : Int)] w fun e W' => e = .returned (.bool (fastN m k n c)) ∧ w = W' := by
  have e1 : fastN m k n c = decide ((c : Int) < min (min (m : Int) k) n) := by
    unfold fastN
    rw [Bool.eq_iff_iff]
    simp
    omega
  rw [e1]
  have hmn : ∀ (w : World) (ts : Array TypeId) (t : TypeId), (Builtin.min_ ts t #[.int .i64 (m : Int), .int .i64 (k : Int), .int .i64 (n : Int)]).run Try.prog w = .ok (.int .i64 (min (min (m : Int) k) n)) w := fun w ts t => min_three w ts t _ _ _
  generalize min (min (m : Int) k) n = q at *
  go_enter Try.func26, Try.ntmps26
  go_wp2
  go_ret
  exact ⟨rfl, rfl⟩
theorem half_z (p : Nat) : (p : Int) / 2 = ((p / 2 : Nat) : Int) := by omega
theorem half_less {c p : Nat} (h : c < p) : (intOf (.int .i64 ((p : Int) / 2))).toNat < (intOf (.int .i64 (p : Int))).toNat := by
  show ((p : Int) / 2).toNat < (p : Int).toNat
  omega
theorem sum_in {X Y Z t : Nat} (h : t + (X + Y + Z) ≤ 5462) : wrap64 ((t : Int) + wrap64 (wrap64 ((X : Int) + (Y : Int)) + (Z : Int))) = ((t + (X + Y + Z) : Nat) : Int) := by
  rw [IntWalk.wrap64_in ((X : Int) + (Y : Int)) (by omega), IntWalk.wrap64_in ((X : Int) + (Y : Int) + (Z : Int)) (by omega), IntWalk.wrap64_in _ (by omega)]
  omega
theorem mul_in {X Y : Nat} (h : X * Y ≤ 5462) : wrap64 ((X : Int) * (Y : Int)) = ((X * Y : Nat) : Int) := by
  rw [← Int.natCast_mul]
  exact IntWalk.wrap64_in _ (by omega)
theorem need_sum {p q r t T N : Nat} (h : t + (p / 2 * (q / 2) + q / 2 * (r / 2) + 2 * (p / 2) * (r / 2) + T) = N) (hN : N ≤ 5462) :
    wrap64 ((t : Int) + wrap64 (wrap64 (wrap64 ((p : Int) / 2 * ((q : Int) / 2)) + wrap64 ((q : Int) / 2 * ((r : Int) / 2))) + wrap64 (2 * ((p : Int) / 2) * ((r : Int) / 2)))) = ((t + (p / 2 * (q / 2) + q / 2 * (r / 2) + 2 * (p / 2) * (r / 2)) : Nat) : Int) := by
  rw [half_z, half_z, half_z]
  generalize p / 2 = P at *
  generalize q / 2 = Q at *
  generalize r / 2 = R at *
  rw [mul_in (X := P) (Y := Q) (by omega), mul_in (X := Q) (Y := R) (by omega), show 2 * (P : Int) = ((2 * P : Nat) : Int) by omega, mul_in (X := 2 * P) (Y := R) (by omega)]
  exact sum_in (by omega)
theorem needN_top {m k n c : Nat} (hm : m ≤ 64) (hk : k ≤ 64) (hn : n ≤ 64) : needN m k n c ≤ 5462 := by
  have h := needN_third m k n c
  have a := Nat.mul_le_mul hm hk
  have b := Nat.mul_le_mul hk hn
  have d := Nat.mul_le_mul hm hn
  omega
set_option maxRecDepth 100000 in
set_option maxHeartbeats 4000000 in
theorem wi_need {m k n c : Nat} {w : World} (hm : 1 ≤ m ∧ m ≤ 64) (hk : 1 ≤ k ∧ k ≤ 64) (hn : 1 ≤ n ∧ n ≤ 64) (hc : 1 ≤ c) :
    Calls Try.prog 25 #[.int .i64 (m : Int), .int .i64 (k : Int), .int .i64 (n : Int), .int .i64 (c : Int)] w fun e W' => e = .returned (.tuple #[.int .i64 (needN m k n c : Int), .int .i64 0]) ∧ w = W' := by
  have s1 : ∀ w, _ := fun w => wi_side (n := (m : Int)) (w := w)
  have s2 : ∀ w, _ := fun w => wi_side (n := (k : Int)) (w := w)
  have s3 : ∀ w, _ := fun w => wi_side (n := (n : Int)) (w := w)
  rw [sideB_iff.2 (by omega)] at s1 s2 s3
  have htop := needN_top (c := c) hm.2 hk.2 hn.2
  have HT := Lib.hid (show needN m k n c = needN m k n c from rfl)
  generalize hN : needN m k n c = N at htop ⊢
  rw [hN] at HT
  replace HT := Lib.hid hN
  clear hN
  go_enter Try.func25, Try.ntmps25
  go_wp2_with (first
    | (go_at_call 57; first | (with_reducible refine (s1 _).mono ?_; rintro e w1 ⟨rfl, rfl⟩) | (with_reducible refine (s2 _).mono ?_; rintro e w1 ⟨rfl, rfl⟩) | (with_reducible refine (s3 _).mono ?_; rintro e w1 ⟨rfl, rfl⟩)))
  go_loopw [0, 1, 2, 10] (fun a b d s wr => ∃ p q r t : Nat, p ≤ 64 ∧ q ≤ 64 ∧ r ≤ 64 ∧ a = .int .i64 (p : Int) ∧ b = .int .i64 (q : Int) ∧ d = .int .i64 (r : Int) ∧ s = .int .i64 (t : Int) ∧ Hid (t + needN p q r c = N) ∧ wr = w) (fun a _ _ _ _ => (intOf a).toNat)
  case atStart => exact ⟨m, k, n, 0, hm.2, hk.2, hn.2, rfl, rfl, rfl, rfl, Lib.hid (by rw [Nat.zero_add, HT.out]), rfl⟩
  case round =>
    obtain ⟨p, q, r, t, hp, hq, hr, rfl, rfl, rfl, rfl, HN, hw⟩ := hrel
    cases hw
    have hf := fun w => wi_fast (m := p) (k := q) (n := r) (c := c) (w := w)
    cases hF : fastN p q r c
    · rw [hF] at hf
      have ht := HN.out
      rw [needN_slow hF, Nat.add_zero] at ht
      subst ht
      clear hF
      go_wp2_with fail
      refine (hf _).mono ?_
      rintro e w1 ⟨rfl, rfl⟩
      go_wp2
      go_ret2
      exact ⟨rfl, rfl⟩
    · rw [hF] at hf
      have ht := HN.out
      have hF2 := fastN_iff.1 hF
      rw [needN_fast hF] at ht
      clear hF
      go_wp2_with fail
      refine (hf _).mono ?_
      rintro e w1 ⟨rfl, rfl⟩
      clear hf s1 s2 s3 HN HT
      go_wp2
      refine ⟨⟨p / 2, q / 2, r / 2, t + (p / 2 * (q / 2) + q / 2 * (r / 2) + 2 * (p / 2) * (r / 2)), Nat.le_trans (Nat.div_le_self _ _) hp, Nat.le_trans (Nat.div_le_self _ _) hq, Nat.le_trans (Nat.div_le_self _ _) hr, congrArg _ (half_z p), congrArg _ (half_z q), congrArg _ (half_z r), congrArg _ (need_sum ht htop), Lib.hid ?_, trivial⟩, half_less hF2.1⟩
      rw [Nat.add_assoc]
      exact ht
theorem wi_need_no {m k n c : Int} {w : World} (h : (sideB m && sideB k && sideB n && decide (1 ≤ c)) = false) :
    Calls Try.prog 25 #[.int .i64 m, .int .i64 k, .int .i64 n, .int .i64 c] w fun e W' => e = .returned (.tuple #[.int .i64 0, .int .i64 4]) ∧ w = W' := by
  have s1 : ∀ w, _ := fun w => wi_side (n := m) (w := w)
  have s2 : ∀ w, _ := fun w => wi_side (n := k) (w := w)
  have s3 : ∀ w, _ := fun w => wi_side (n := n) (w := w)
  have d : decide (c < 1) = !decide (1 ≤ c) := by rw [Bool.eq_iff_iff]; simp
  generalize sideB m = b1 at *
  generalize sideB k = b2 at *
  generalize sideB n = b3 at *
  generalize decide (1 ≤ c) = b4 at *
  have hways : b1 = false ∨ (b1 = true ∧ b2 = false) ∨ (b1 = true ∧ b2 = true ∧ b3 = false) ∨ (b1 = true ∧ b2 = true ∧ b3 = true ∧ b4 = false) := by
    revert h; cases b1 <;> cases b2 <;> cases b3 <;> cases b4 <;> simp
  clear h
  rcases hways with rfl | ⟨rfl, rfl⟩ | ⟨rfl, rfl, rfl⟩ | ⟨rfl, rfl, rfl, rfl⟩
  all_goals
    go_enter Try.func25, Try.ntmps25
    go_wp2_with (first
      | (go_at_call 57; first | (with_reducible refine (s1 _).mono ?_; rintro e w1 ⟨rfl, rfl⟩) | (with_reducible refine (s2 _).mono ?_; rintro e w1 ⟨rfl, rfl⟩) | (with_reducible refine (s3 _).mono ?_; rintro e w1 ⟨rfl, rfl⟩)))
    go_ret2
    exact ⟨rfl, rfl⟩
theorem below_step {p : Nat → Prop} {k : Nat} (h : ∀ j, j < k → p j) (hk : p k) : ∀ j, j < k + 1 → p j := by
  intro j hj
  rcases Nat.lt_or_ge j k with e | e
  · exact h j e
  · obtain rfl : j = k := by omega
    exact hk
/-- need.may -/
def allS (zs : List Int) (c : Int) : Bool := (List.range zs.length).all (fun j => sideB (zat zs j)) && decide (1 ≤ c)
/-- the greatest of the first k -/
def mxZ (zs : List Int) : Nat → Int
  | 0 => 0
  | k + 1 => max (mxZ zs k) (zat zs k)
theorem argk_new (k : IntKind) (zs : List Int) (w : World) (t : TypeId) : ArgK k (w.alloc (.cells (valsK k zs).toArray t)) (.slice (some ⟨w.heap.size, 0, none⟩) zs.length zs.length) zs := by
  refine ⟨w.heap.size, by rw [World.size_alloc]; omega, .inr ⟨0, zs.length, rfl, Nat.le_refl _, fun j hj => ?_⟩⟩
  rw [Nat.zero_add, World.cell?_alloc_new, List.getElem?_toArray, valsK_get hj]
end Go.Proofs.Ytjapilpjahhimaa
