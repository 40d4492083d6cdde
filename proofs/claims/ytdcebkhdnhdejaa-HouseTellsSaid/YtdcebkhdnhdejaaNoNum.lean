/- norm: sums of numbers without signs, plain numbers. No program is named here. -/
import Derived.Test.YtdcebkhdnhdejaaFmNum
import Derived.Test.YtdcebkhdnhdejaaFcNum
import Derived.Test.YtdcebkhdnhdejaaShNum
namespace Go.Proofs.Ytdcebkhdnhdejaa

/-- what is rounded up from no less is no less -/
theorem rnd_ge {N a d : Nat} {E mode : Int} (hN : 0 < N) (hc : fe a ≠ 2047) (hn : neg6 a = false) (ha : a < 18446744073709551616) (hm : mode = 0) (hd : xpo a = E + d) (h : sig a * 2 ^ d ≤ N) :
    a ≤ (rnd false N 1 E mode).1 ∧ (rnd false N 1 E mode).1 ≤ 9218868437227405312 := by
  subst hm
  obtain ⟨⟨x1, x2, x3⟩, x4, x5⟩ := sig_fits hc
  have hf := rexp_fits hN (by decide : 0 < 1) E
  have haa : a = fe a * 4503599627370496 + ff a := by
    have := hn
    unfold neg6 at this
    have h2 := of_decide_eq_false this
    unfold fe ff
    omega
  unfold rnd
  rw [fin_eq hf]
  obtain ⟨f1, f2, f3⟩ := hf
  have key : (xpo a + 1074).toNat * 4503599627370496 + sig a ≤ (rexp N 1 E + 1074).toNat * 4503599627370496 + qat N 1 E (rexp N 1 E) := by
    generalize rexp N 1 E = e at *
    have hq : qat N 1 E e = upper N (E - e) / lower 1 (E - e) := rfl
    rcases Int.lt_trichotomy (xpo a) e with h1 | h1 | h1
    · obtain ⟨u, hu⟩ : ∃ u : Nat, (e + 1074).toNat = (xpo a + 1074).toNat + 1 + u := ⟨(e + 1074).toNat - (xpo a + 1074).toNat - 1, by omega⟩
      rw [hu, Nat.add_mul, Nat.add_mul]
      generalize qat N 1 E e = q at *
      have := Nat.zero_le (u * 4503599627370496)
      omega
    · have hz : E - e = -(d : Int) := by omega
      rw [hq, hz, upper_neg N (by omega), lower_one_nat, h1]
      have := (Nat.le_div_iff_mul_le (Nat.two_pow_pos d)).2 h
      omega
    · exfalso
      have hs : 4503599627370496 ≤ sig a := by omega
      have hbig : 9007199254740992 ≤ qat N 1 E e := by
        rw [hq]
        by_cases hEe : E ≤ e
        · obtain ⟨u, hu⟩ : ∃ u : Nat, E - e = -(u : Int) := ⟨(e - E).toNat, by omega⟩
          rw [hu, upper_neg N (by omega), lower_one_nat, Nat.le_div_iff_mul_le (Nat.two_pow_pos u)]
          obtain ⟨v, hv⟩ : ∃ v : Nat, d = u + 1 + v := ⟨d - u - 1, by omega⟩
          have e1 : sig a * 2 ^ d = 2 * sig a * 2 ^ u * 2 ^ v := by rw [hv, Nat.pow_add, Nat.pow_succ]; simp only [Nat.mul_assoc, Nat.mul_comm, Nat.mul_left_comm]
          have e2 := Nat.le_mul_of_pos_right (2 * sig a * 2 ^ u) (Nat.two_pow_pos v)
          have e3 := Nat.mul_le_mul_right (2 ^ u) (show 9007199254740992 ≤ 2 * sig a by omega)
          omega
        · obtain ⟨u, hu⟩ : ∃ u : Nat, E - e = ((u + 1 : Nat) : Int) := ⟨(E - e - 1).toNat, by omega⟩
          rw [hu, upper_nat, lower_one_pos (by omega), Nat.div_one]
          have e1 : sig a ≤ N := Nat.le_trans (Nat.le_mul_of_pos_right _ (Nat.two_pow_pos d)) h
          have e2 : 2 ^ 1 ≤ 2 ^ (u + 1) := Nat.pow_le_pow_right (by decide) (by omega)
          have e3 := Nat.mul_le_mul e1 e2
          omega
      generalize qat N 1 E e = q at *
      omega
  rw [x4] at key
  obtain ⟨q1, hq1⟩ : ∃ q1, q1 = (if rup false 0 (qat N 1 E (rexp N 1 E)) (decide (rst N 1 (E - rexp N 1 E) ≠ 0)) (cmpN (2 * rst N 1 (E - rexp N 1 E)) (lower 1 (E - rexp N 1 E))) then qat N 1 E (rexp N 1 E) + 1 else qat N 1 E (rexp N 1 E)) := ⟨_, rfl⟩
  have hqq : qat N 1 E (rexp N 1 E) ≤ q1 := by rw [hq1]; split <;> omega
  rw [← hq1]
  by_cases hb : 9218868437227405312 ≤ (rexp N 1 E + 1074).toNat * 4503599627370496 + q1
  · rw [if_pos hb]
    have : (rbig false 0).1 = 9218868437227405312 := by decide
    rw [this]
    omega
  · rw [if_neg hb]
    have hz : sgn false = 0 := rfl
    rw [hz, Nat.zero_add]
    exact ⟨Nat.le_trans (Nat.le_of_eq haa) (Nat.le_trans key (Nat.add_le_add_left hqq _)), Nat.le_of_lt (Nat.not_le.1 hb)⟩
/-- numbers that are not below 0, and the infinite one -/
def Pos (a : Nat) : Prop := a ≤ 9218868437227405312
theorem pos_facts {a : Nat} (h : Pos a) : a < 18446744073709551616 ∧ neg6 a = false ∧ mag a = a ∧ cls a ≠ 3 ∧ (cls a = 2 → a = 9218868437227405312) ∧ (a ≠ 9218868437227405312 → cls a ≤ 1 ∧ fe a ≠ 2047) := by
  unfold Pos at h
  have hm : mag a = a := by unfold mag; omega
  have hn : neg6 a = false := by unfold neg6; exact decide_eq_false (by omega)
  have hc := cls_mag a
  rw [hm] at hc
  refine ⟨by omega, hn, hm, ?_, ?_, ?_⟩
  · rw [hc, if_neg (by omega)]; split
    · decide
    · split <;> decide
  · intro h2
    rw [hc, if_neg (by omega)] at h2
    split at h2
    · assumption
    · split at h2 <;> exact absurd h2 (by decide)
  · intro h2
    have h3 : cls a ≤ 1 := by
      rw [hc, if_neg (by omega), if_neg h2]; split <;> omega
    exact ⟨h3, cls_fin.1 h3⟩
theorem plus_pos1 {a b : Nat} (ha : Pos a) (hb : Pos b) : a ≤ plusU a b ∧ plusU a b ≤ 9218868437227405312 := by
  obtain ⟨a1, a2, a3, a4, a5, a6⟩ := pos_facts ha
  obtain ⟨b1, b2, b3, b4, b5, b6⟩ := pos_facts hb
  unfold Pos at ha hb
  unfold plusU radd
  rw [if_neg (by omega)]
  by_cases c1 : cls a = 2
  · have e1 := a5 c1
    split
    · rename_i h
      exact absurd (by rw [e1, b5 h.2.1]) h.2.2
    · exact ⟨Nat.le_refl _, ha⟩
  · rw [if_neg (by simp [c1]), if_neg c1]
    by_cases c2 : cls b = 2
    · rw [if_pos c2]
      have := b5 c2
      dsimp only
      omega
    · rw [if_neg c2]
      have fa : fe a ≠ 2047 := (a6 (fun h => c1 (by rw [h]; decide))).2
      have fb : fe b ≠ 2047 := (b6 (fun h => c2 (by rw [h]; decide))).2
      unfold rsum
      rw [a2, b2]
      have hs : ssum false (sig a) (xpo a) false (sig b) (xpo b) = ((upper (sig a) (xpo a - min (xpo a) (xpo b)) + upper (sig b) (xpo b - min (xpo a) (xpo b)) : Nat) : Int) := by
        unfold ssum sv
        simp
      obtain ⟨d, hd⟩ : ∃ d : Nat, xpo a - min (xpo a) (xpo b) = d := ⟨(xpo a - min (xpo a) (xpo b)).toNat, by omega⟩
      have hu : upper (sig a) (xpo a - min (xpo a) (xpo b)) = sig a * 2 ^ d := by rw [hd, upper_nat]
      rw [hs, hu]
      generalize upper (sig b) (xpo b - min (xpo a) (xpo b)) = B
      by_cases h0 : sig a * 2 ^ d + B = 0
      · rw [if_pos (by rw [h0]; rfl), if_pos rfl]
        have hsa : sig a = 0 := by
          have : sig a * 2 ^ d = 0 := by omega
          rcases Nat.mul_eq_zero.1 this with h | h
          · exact h
          · exact absurd h (Nat.ne_of_gt (Nat.two_pow_pos d))
        have := (sig_zero a1 hsa).1
        rw [a2] at this
        rw [this]
        exact ⟨Nat.le_refl _, Nat.zero_le _⟩
      · rw [if_neg (by omega)]
        have hng : decide ((((sig a * 2 ^ d + B : Nat)) : Int) < 0) = false := decide_eq_false (by omega)
        rw [hng, Int.natAbs_natCast]
        exact rnd_ge (d := d) (by omega) fa a2 a1 rfl (by omega) (by omega)
theorem plus_comm (a b : Nat) : plusU a b = plusU b a := by unfold plusU; rw [radd_comm]
theorem plus_pos {a b : Nat} (ha : Pos a) (hb : Pos b) : a ≤ plusU a b ∧ b ≤ plusU a b ∧ Pos (plusU a b) :=
  ⟨(plus_pos1 ha hb).1, by rw [plus_comm]; exact (plus_pos1 hb ha).1, (plus_pos1 ha hb).2⟩
/-- numbers added, from +0 on -/
def sumS (f : Nat → Nat) : Nat → Nat
  | 0 => 0
  | n + 1 => plusU (sumS f n) (f n)
theorem sumS_pos {f : Nat → Nat} {n : Nat} (h : ∀ k, k < n → Pos (f k)) : Pos (sumS f n) ∧ ∀ k, k < n → f k ≤ sumS f n := by
  induction n with
  | zero => exact ⟨Nat.zero_le _, fun k hk => by omega⟩
  | succ n ih =>
    obtain ⟨i1, i2⟩ := ih fun k hk => h k (by omega)
    obtain ⟨p1, p2, p3⟩ := plus_pos i1 (h n (by omega))
    refine ⟨p3, fun k hk => ?_⟩
    rcases Nat.lt_or_ge k n with hk2 | hk2
    · exact Nat.le_trans (i2 k hk2) p1
    · obtain rfl : k = n := by omega
      exact p2
theorem sumS_congr {f g : Nat → Nat} {n : Nat} (h : ∀ k, k < n → f k = g k) : sumS f n = sumS g n := by
  induction n with
  | zero => rfl
  | succ n ih =>
    show plusU (sumS f n) (f n) = plusU (sumS g n) (g n)
    rw [ih fun k hk => h k (by omega), h n (by omega)]
/-- the greatest of the first n, from 0 on -/
def mx (f : Nat → Nat) : Nat → Nat
  | 0 => 0
  | n + 1 => max (mx f n) (f n)
theorem mx_congr {f g : Nat → Nat} {n : Nat} (h : ∀ k, k < n → f k = g k) : mx f n = mx g n := by
  induction n with
  | zero => rfl
  | succ n ih =>
    show max (mx f n) (f n) = max (mx g n) (g n)
    rw [ih fun k hk => h k (by omega), h n (by omega)]
theorem mx_ge {f : Nat → Nat} {n k : Nat} (h : k < n) : f k ≤ mx f n := by
  induction n with
  | zero => omega
  | succ n ih =>
    show f k ≤ max (mx f n) (f n)
    rcases Nat.lt_or_ge k n with h2 | h2
    · exact Nat.le_trans (ih h2) (Nat.le_max_left _ _)
    · obtain rfl : k = n := by omega
      exact Nat.le_max_right _ _
theorem mx_le {f : Nat → Nat} {n b : Nat} (h : ∀ k, k < n → f k ≤ b) : mx f n ≤ b := by
  induction n with
  | zero => exact Nat.zero_le _
  | succ n ih => exact Nat.max_le.2 ⟨ih fun k hk => h k (by omega), h n (by omega)⟩
theorem mx_pos {f : Nat → Nat} {n : Nat} (h : ∀ k, k < n → Pos (f k)) : Pos (mx f n) := mx_le h
theorem fin_mag {x : Nat} (h : cls x ≤ 1) : Pos (mag x) ∧ mag x < 9218868437227405312 ∧ absB x = mag x ∧ isNum x = true := by
  have hn : isNum x = true := (isNum_cls x).2 (by omega)
  have hm := cls_mag x
  have h1 : mag x ≤ 9218868437227405312 := of_decide_eq_true hn
  have h2 : mag x ≠ 9218868437227405312 := fun e => by
    rw [if_neg (by omega), if_pos e] at hm
    omega
  exact ⟨h1, by omega, by unfold absB; rw [hn, if_pos rfl], hn⟩
/-- the greatest number of a list that holds no NaN -/
theorem maxU_mx {xs : List Nat} {n : Nat} (h : ∀ k, k < n → isNum (lim xs k) = true) : maxU xs n = mx (fun k => mag (lim xs k)) n ∧ anyN xs n = false := by
  induction n with
  | zero => exact ⟨rfl, rfl⟩
  | succ n ih =>
    obtain ⟨i1, i2⟩ := ih fun k hk => h k (by omega)
    have hs : anyN xs (n + 1) = false := by
      show (anyN xs n || !isNum (lim xs n)) = false
      rw [i2, h n (by omega)]; rfl
    exact ⟨by rw [(max_next hs).1, i1]; rfl, hs⟩
theorem pos_num {x : Nat} (h : Pos x) : isNum x = true := (isNum_cls x).2 (pos_facts h).2.2.2.1
theorem maxU_row {n : Nat} {f : Nat → Nat} (h : ∀ k, k < n → Pos (f k)) : maxU (rowV n f) n = mx f n := by
  rw [(maxU_mx (xs := rowV n f) (n := n) fun k hk => by rw [rowV_lim _ hk]; exact pos_num (h k hk)).1]
  exact mx_congr fun k hk => by rw [rowV_lim _ hk]; exact (pos_facts (h k hk)).2.2.1
theorem finM_may0 {R C : Int} {m : Nat} {xs : List Nat} (h : finM R C m xs = 0) : 1 ≤ R ∧ R ≤ 64 ∧ 1 ≤ C ∧ C ≤ 64 ∧ (m : Int) = R * C ∧ m ≤ 4096 ∧ mayM R C m = true ∧ finU xs m = 0 := by
  unfold finM at h
  cases hm : mayM R C m
  · rw [hm] at h; simp at h
  · rw [hm] at h
    obtain ⟨q1, q2, q3, q4, q5⟩ := mayM_iff.1 hm
    have := Int.mul_le_mul q2 q4 (by omega) (by decide)
    exact ⟨q1, q2, q3, q4, q5, by omega, rfl, h⟩
end Go.Proofs.Ytdcebkhdnhdejaa
