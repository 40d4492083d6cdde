/- What the calls of package parts reckon: plain numbers. No program is named here. -/
import Derived.Test.YtjapilpjahhimaaRefSplit
import Derived.Laws.Bits64b
namespace Go.Proofs.Ytjapilpjahhimaa
open Go.RowKit Go.Shelf

theorem not_top {a : Nat} (ha : a < 18446744073709551616) : bits .andNot .u64 (a : Int) 9223372036854775808 = ((a % 9223372036854775808 : Nat) : Int) := by
  have h1 : (BitVec.ofInt 64 (a : Int)).toNat = a := by
    rw [BitVec.ofInt_natCast, BitVec.toNat_ofNat]; exact Nat.mod_eq_of_lt (by omega)
  have h2 : (~~~(BitVec.ofInt 64 9223372036854775808)).toNat = 2 ^ 63 - 1 := by decide
  show IntKind.u64.wrap ((BitVec.ofInt 64 (a : Int) &&& ~~~(BitVec.ofInt 64 9223372036854775808)).toNat : Int) = _
  rw [BitVec.toNat_and, h1, h2, Nat.and_two_pow_sub_one_eq_mod, IntKind.wrap_u64]
  omega
theorem and_top {a : Nat} (ha : a < 18446744073709551616) : (bits .and .u64 (a : Int) 9223372036854775808 != 0) = neg6 a := by
  have h := bits_and_u64_nat a 9223372036854775808 ha (by omega)
  have d1 := Nat.and_div_two_pow (a := a) (b := 9223372036854775808) (n := 63)
  have d2 := Nat.and_mod_two_pow (a := a) (b := 9223372036854775808) (n := 63)
  rw [show 9223372036854775808 / 2 ^ 63 = 1 from rfl, Nat.and_one_is_mod] at d1
  rw [show 9223372036854775808 % 2 ^ 63 = 0 from rfl, Nat.and_zero] at d2
  rw [show (9223372036854775808 : Int) = ((9223372036854775808 : Nat) : Int) from rfl, h]
  generalize a &&& 9223372036854775808 = c at *
  unfold neg6
  by_cases hc : (9223372036854775808 : Int) ≤ (a : Int)
  · rw [decide_eq_true hc, show c = 9223372036854775808 by omega]; rfl
  · rw [decide_eq_false hc, show c = 0 by omega]; rfl
theorem and_low {a : Nat} (ha : a < 18446744073709551616) : bits .and .u64 (a : Int) 4503599627370495 = (ff a : Int) := by
  have h := bits_and_u64_nat a 4503599627370495 ha (by omega)
  rw [show (4503599627370495 : Nat) = 2 ^ 52 - 1 from rfl, Nat.and_two_pow_sub_one_eq_mod] at h
  exact h
theorem or_lead {f : Nat} (hf : f < 4503599627370496) : bits .or .u64 4503599627370496 (f : Int) = ((f + 4503599627370496 : Nat) : Int) := by
  have h := bits_or_u64_nat 4503599627370496 f (by omega) (by omega)
  have e := Nat.two_pow_add_eq_or_of_lt (i := 52) hf 1
  rw [show 2 ^ 52 * 1 = 4503599627370496 from rfl] at e
  rw [← e] at h
  rw [Nat.add_comm]
  exact h
theorem or_sign (neg : Bool) {q : Nat} (hq : q < 9223372036854775808) : bits .or .u64 (sgn neg : Int) (q : Int) = ((sgn neg + q : Nat) : Int) := by
  have h := bits_or_u64_nat (sgn neg) q (by unfold sgn; split <;> omega) (by omega)
  rw [h]
  cases neg
  · simp [sgn]
  · have e := Nat.two_pow_add_eq_or_of_lt (i := 63) hq 1
    rw [show 2 ^ 63 * 1 = 9223372036854775808 from rfl] at e
    rw [show sgn true = 9223372036854775808 from rfl, e]
/-- the last bit set, if asked for -/
def stk (G : Nat) (st : Bool) : Nat := if st then G + (1 - G % 2) else G
theorem or_one {G : Nat} (hG : G < 18446744073709551616) : bits .or .u64 (G : Int) 1 = (stk G true : Int) := by
  have h := bits_or_u64_nat G 1 hG (by omega)
  have e := Nat.two_pow_add_eq_or_of_lt (i := 1) (b := 1) (by decide) (G / 2)
  have h2 : G ||| 1 = stk G true := by
    unfold stk
    rw [if_pos rfl]
    rcases Nat.mod_two_eq_zero_or_one G with h0 | h1
    · rw [show G = 2 ^ 1 * (G / 2) by omega, ← e]; omega
    · have e2 : G = 2 ^ 1 * (G / 2) ||| 1 := by rw [← e]; omega
      have e3 : G ||| 1 = G := by
        rw [e2, Nat.or_assoc, Nat.or_self]
      rw [e3]; omega
  rw [h2] at h
  exact h
/-- the kind of what is left -/
def lef (r d : Nat) : Nat := if r = 0 then 0 else if 2 * r < d then 1 else if 2 * r = d then 2 else 3
theorem lef_le (r d : Nat) : lef r d ≤ 3 := by
  unfold lef
  split
  · omega
  · split
    · omega
    · split <;> omega
theorem lef_mul (r d : Nat) {c : Nat} (hc : 0 < c) : lef (r * c) (d * c) = lef r d := by
  unfold lef
  rw [← Nat.mul_assoc]
  have h1 : (r * c = 0) = (r = 0) := propext ⟨fun h => (Nat.mul_eq_zero.1 h).elim id (fun h => by omega), fun h => by rw [h, Nat.zero_mul]⟩
  have h2 : (2 * r * c < d * c) = (2 * r < d) := propext (Nat.mul_lt_mul_right hc)
  have h3 : (2 * r * c = d * c) = (2 * r = d) := propext ⟨fun h => Nat.eq_of_mul_eq_mul_right hc h, fun h => by rw [h]⟩
  simp only [h1, h2, h3]
theorem lef_zero (d : Nat) : lef 0 d = 0 := rfl
/-- is the next one told? -/
def goes (neg : Bool) (mode : Int) (q left : Nat) : Bool :=
  if mode = 1 then decide (2 ≤ left) else if mode = 2 then false else if mode = 3 then decide (left ≠ 0) && !neg else if mode = 4 then decide (left ≠ 0) && neg else decide (left = 3) || (decide (left = 2) && decide (q % 2 = 1))
theorem rup_none (neg : Bool) (mode : Int) (q : Nat) : rup neg mode q false (-1) = goes neg mode q 0 := rfl
theorem rup_one (neg : Bool) (mode : Int) (q : Nat) : rup neg mode q true (-1) = goes neg mode q 1 := rfl
theorem rup_two (neg : Bool) (mode : Int) (q : Nat) : rup neg mode q true 0 = goes neg mode q 2 := rfl
theorem rup_three (neg : Bool) (mode : Int) (q : Nat) : rup neg mode q true 1 = goes neg mode q 3 := rfl
theorem rup_goes (neg : Bool) (mode : Int) (q : Nat) {r d : Nat} (hd : 0 < d) : rup neg mode q (decide (r ≠ 0)) (cmpN (2 * r) d) = goes neg mode q (lef r d) := by
  unfold lef cmpN
  by_cases h0 : r = 0
  · rw [if_pos (by omega : 2 * r < d), if_pos h0, decide_eq_false (by omega)]
    exact rup_none neg mode q
  · rw [decide_eq_true h0, if_neg h0]
    by_cases h1 : 2 * r < d
    · rw [if_pos h1, if_pos h1]
      exact rup_one neg mode q
    · rw [if_neg h1, if_neg h1]
      by_cases h2 : 2 * r = d
      · rw [if_neg (by omega : ¬ d < 2 * r), if_pos h2]
        exact rup_two neg mode q
      · rw [if_pos (by omega : d < 2 * r), if_neg h2]
        exact rup_three neg mode q
theorem rup_more (neg : Bool) (mode : Int) (q r d : Nat) : rup neg mode q true (if 2 * r < d then -1 else 1) = goes neg mode q (if 2 * r < d then 1 else 3) := by
  by_cases h : 2 * r < d
  · rw [if_pos h, if_pos h]
    exact rup_one neg mode q
  · rw [if_neg h, if_neg h]
    exact rup_three neg mode q
theorem lef_ne {r : Nat} (h : r ≠ 0) (d : Nat) : lef r d ≠ 0 := by
  unfold lef
  rw [if_neg h]
  split
  · omega
  · split <;> omega
theorem stk_cut {G n : Nat} (st : Bool) (hn : 2 ≤ n) : stk G st / 2 ^ n = G / 2 ^ n ∧ lef (stk G st % 2 ^ n) (2 ^ n) = if st then (if 2 * (G % 2 ^ n) < 2 ^ n then 1 else 3) else lef (G % 2 ^ n) (2 ^ n) := by
  cases st
  · exact ⟨rfl, rfl⟩
  · obtain ⟨m, rfl⟩ : ∃ m, n = m + 2 := ⟨n - 2, by omega⟩
    have hd : 0 < 2 ^ m := Nat.two_pow_pos m
    have e : 2 ^ (m + 2) = 4 * 2 ^ m := by rw [Nat.pow_add]; omega
    rw [e]
    generalize 2 ^ m = d at *
    have h := Nat.div_add_mod G (4 * d)
    have hr : G % (4 * d) < 4 * d := Nat.mod_lt _ (by omega)
    generalize G / (4 * d) = q at *
    generalize G % (4 * d) = r at *
    have ha : 4 * d * q = 4 * (d * q) := Nat.mul_assoc 4 d q
    have hs : stk G true = 4 * d * q + (r + (1 - r % 2)) := by
      unfold stk
      rw [if_pos rfl]
      omega
    have hl : r + (1 - r % 2) < 4 * d := by omega
    rw [hs, Nat.mul_add_div (by omega), Nat.div_eq_of_lt hl, Nat.mul_add_mod, Nat.mod_eq_of_lt hl]
    refine ⟨rfl, ?_⟩
    unfold lef
    rw [if_neg (by omega), if_pos rfl]
    by_cases h1 : 2 * r < 4 * d
    · rw [if_pos h1, if_pos (by omega)]
    · rw [if_neg h1, if_neg (by omega), if_neg (by omega)]
/-- 64 bits from the highest one on; what stands below makes the last one 1 -/
def gth (N : Nat) (more : Bool) : Nat :=
  stk (if nbits N ≤ 64 then N * 2 ^ (64 - nbits N) else N / 2 ^ (nbits N - 64)) (more || decide (64 < nbits N ∧ N % 2 ^ (nbits N - 64) ≠ 0))
theorem gth_down {N k n : Nat} (more : Bool) (hn : n + nbits N = k + 64) (h2 : 2 ≤ n) :
    gth N more / 2 ^ n = N / 2 ^ k ∧ lef (gth N more % 2 ^ n) (2 ^ n) = if more then (if 2 * (N % 2 ^ k) < 2 ^ k then 1 else 3) else lef (N % 2 ^ k) (2 ^ k) := by
  unfold gth
  by_cases hb : nbits N ≤ 64
  · obtain ⟨j, hj⟩ : ∃ j, j = 64 - nbits N := ⟨_, rfl⟩
    have hnk : n = k + j := by omega
    have hj0 : 0 < 2 ^ j := Nat.two_pow_pos j
    obtain ⟨c1, c2⟩ := stk_cut (G := N * 2 ^ j) more h2
    have hst : (more || decide (64 < nbits N ∧ N % 2 ^ (nbits N - 64) ≠ 0)) = more := by
      rw [decide_eq_false (by omega), Bool.or_false]
    rw [if_pos hb, ← hj, hst, c1, c2, hnk, Nat.pow_add, Nat.mul_div_mul_right _ _ hj0, Nat.mul_mod_mul_right, lef_mul _ _ hj0]
    refine ⟨rfl, ?_⟩
    have : (2 * (N % 2 ^ k * 2 ^ j) < 2 ^ k * 2 ^ j) = (2 * (N % 2 ^ k) < 2 ^ k) := by
      rw [← Nat.mul_assoc]
      exact propext (Nat.mul_lt_mul_right hj0)
    simp only [this]
  · obtain ⟨j, hj⟩ : ∃ j, j = nbits N - 64 := ⟨_, rfl⟩
    have hnk : k = j + n := by omega
    have hj0 : 0 < 2 ^ j := Nat.two_pow_pos j
    obtain ⟨c, hc⟩ : ∃ c, 2 ^ n = 2 * c := ⟨2 ^ (n - 1), by rw [← Nat.pow_succ', show (n - 1).succ = n by omega]⟩
    have hc0 : 0 < c := by have := Nat.two_pow_pos n; omega
    obtain ⟨c1, c2⟩ := stk_cut (G := N / 2 ^ j) (more || decide (64 < nbits N ∧ N % 2 ^ j ≠ 0)) h2
    rw [if_neg hb, ← hj, c1, c2, hnk, Nat.pow_add, Nat.div_div_eq_div_mul, Nat.mod_mul, hc]
    refine ⟨rfl, ?_⟩
    have hs : N % 2 ^ j < 2 ^ j := Nat.mod_lt _ hj0
    generalize N % 2 ^ j = s at *
    generalize N / 2 ^ j % (2 * c) = r at *
    generalize 2 ^ j = d at *
    have hdc : d * (2 * c) = 2 * (d * c) := Nat.mul_left_comm d 2 c
    have key : 2 * r < 2 * c ↔ 2 * (s + d * r) < d * (2 * c) := by
      rw [hdc]
      constructor
      · intro h
        have := Nat.mul_le_mul_left d (show r + 1 ≤ c by omega)
        rw [Nat.mul_add] at this
        omega
      · intro h
        refine Nat.not_le.1 fun hle => ?_
        have := Nat.mul_le_mul_left d (show c ≤ r by omega)
        omega
    cases more
    · by_cases h0 : s = 0
      · subst h0
        rw [decide_eq_false (by omega), Bool.or_false, if_neg Bool.false_ne_true, if_neg Bool.false_ne_true, Nat.zero_add, Nat.mul_comm d r, Nat.mul_comm d (2 * c), lef_mul _ _ hj0]
      · rw [decide_eq_true (by omega), Bool.or_true, if_pos rfl, if_neg Bool.false_ne_true]
        unfold lef
        rw [if_neg (show ¬ (s + d * r = 0) by omega)]
        by_cases h1 : 2 * r < 2 * c
        · rw [if_pos h1, if_pos (key.1 h1)]
        · rw [if_neg h1, if_neg (fun h => h1 (key.2 h)), if_neg]
          rw [hdc]
          intro he
          have h2 := Nat.mul_le_mul_left d (show c ≤ r by omega)
          omega
    · rw [Bool.true_or, if_pos rfl, if_pos rfl]
      by_cases h1 : 2 * r < 2 * c
      · rw [if_pos h1, if_pos (key.1 h1)]
      · rw [if_neg h1, if_neg (fun h => h1 (key.2 h))]
theorem gth_up {N k n : Nat} (hn : n + nbits N + k = 64) : gth N false / 2 ^ n = N * 2 ^ k ∧ lef (gth N false % 2 ^ n) (2 ^ n) = 0 := by
  have hn0 : 0 < 2 ^ n := Nat.two_pow_pos n
  unfold gth
  rw [if_pos (by omega), decide_eq_false (by omega), Bool.or_false, show 64 - nbits N = k + n by omega, Nat.pow_add, ← Nat.mul_assoc]
  unfold stk
  rw [if_neg Bool.false_ne_true, Nat.mul_div_cancel _ hn0, Nat.mul_mod_left]
  exact ⟨rfl, rfl⟩
theorem gth_lt {N : Nat} (more : Bool) : gth N more < 18446744073709551616 := by
  have hst : ∀ (G : Nat) (st : Bool), G < 18446744073709551616 → stk G st < 18446744073709551616 := by
    intro G st h
    unfold stk
    split <;> omega
  have h := nbits_lt N
  unfold gth
  refine hst _ _ ?_
  split
  · rename_i hb
    have h1 : N * 2 ^ (64 - nbits N) < 2 ^ nbits N * 2 ^ (64 - nbits N) := Nat.mul_lt_mul_of_pos_right h (Nat.two_pow_pos _)
    rw [← Nat.pow_add, show nbits N + (64 - nbits N) = 64 by omega] at h1
    exact h1
  · rename_i hb
    rw [Nat.div_lt_iff_lt_mul (Nat.two_pow_pos _), show (18446744073709551616 : Nat) = 2 ^ 64 from rfl, ← Nat.pow_add, show 64 + (nbits N - 64) = nbits N by omega]
    exact h
/-- where it is cut -/
def cutAt (N : Nat) (E : Int) : Nat := (rx N E - ((nbits N : Int) + E - 64)).toNat
theorem cutAt_eq (N : Nat) (E : Int) : (cutAt N E : Int) = rx N E - ((nbits N : Int) + E - 64) ∧ 11 ≤ cutAt N E := by
  unfold cutAt rx
  omega
def flg (left : Nat) (tiny : Bool) : Nat := if left = 0 then 0 else if tiny then 24 else 16
/-- the number that is told: its row of bits, and flags -/
def told (neg : Bool) (mode : Int) (M left : Nat) (x : Int) (tiny : Bool) : Nat × Nat :=
  if 9218868437227405312 ≤ (x + 1074).toNat * 4503599627370496 + (if goes neg mode M left then M + 1 else M) then rbig neg mode
  else (sgn neg + ((x + 1074).toNat * 4503599627370496 + (if goes neg mode M left then M + 1 else M)), flg left tiny)
theorem rnd_gth {neg : Bool} {N : Nat} {E mode : Int} (more : Bool) (hN : 0 < N) (hm : more = true → 55 ≤ nbits N ∨ E ≤ -1080) :
    (if more = true then rnd neg (2 * N + 1) 1 (E - 1) mode else rnd neg N 1 E mode) =
      told neg mode (gth N more / 2 ^ cutAt N E) (lef (gth N more % 2 ^ cutAt N E) (2 ^ cutAt N E)) (rx N E) (decide ((nbits N : Int) + E ≤ -1022)) ∧ Fits (gth N more / 2 ^ cutAt N E) (rx N E) := by
  obtain ⟨c1, c2⟩ := cutAt_eq N E
  generalize cutAt N E = n at *
  by_cases hd : E ≤ rx N E
  · obtain ⟨k, hk⟩ : ∃ k : Nat, rx N E = E + k := ⟨(rx N E - E).toNat, by omega⟩
    obtain ⟨g1, g2⟩ := gth_down (N := N) (k := k) (n := n) more (by omega) (by omega)
    have hf := fits_down hN hk
    rw [g1, g2, hk]
    refine ⟨?_, hf⟩
    cases more
    · rw [if_neg Bool.false_ne_true, if_neg Bool.false_ne_true, rnd_down hN hk, fin_eq hf, rup_goes _ _ _ (Nat.two_pow_pos k)]
      have hfl : rflags (decide (N % 2 ^ k ≠ 0)) (decide ((nbits N : Int) + E ≤ -1022)) = flg (lef (N % 2 ^ k) (2 ^ k)) (decide ((nbits N : Int) + E ≤ -1022)) := by
        unfold rflags flg
        by_cases h0 : N % 2 ^ k = 0
        · rw [h0, lef_zero, if_pos rfl]; rfl
        · rw [if_neg (lef_ne h0 _), decide_eq_true h0, if_pos rfl]
      rw [hfl]
      rfl
    · have hk1 : 1 ≤ k := by
        have := hm rfl
        unfold rx at hk
        omega
      rw [if_pos rfl, if_pos rfl, rnd_more hN hk hk1, fin_eq hf, rup_more]
      have hfl : rflags true (decide ((nbits N : Int) + E ≤ -1022)) = flg (if 2 * (N % 2 ^ k) < 2 ^ k then 1 else 3) (decide ((nbits N : Int) + E ≤ -1022)) := by
        unfold rflags flg
        by_cases h0 : 2 * (N % 2 ^ k) < 2 ^ k
        · rw [if_pos h0]; rfl
        · rw [if_neg h0]; rfl
      rw [hfl]
      rfl
  · have hmf : more = false := by
      cases more
      · rfl
      · have := hm rfl
        unfold rx at hd
        omega
    subst hmf
    obtain ⟨k, hk⟩ : ∃ k : Nat, rx N E = E - k := ⟨(E - rx N E).toNat, by omega⟩
    obtain ⟨g1, g2⟩ := gth_up (N := N) (k := k) (n := n) (by omega)
    have hf := fits_up hN hk
    rw [g1, g2, hk, if_neg Bool.false_ne_true, rnd_up hN hk, fin_eq hf, rup_none]
    exact ⟨rfl, hf⟩
theorem rbig_goes (neg : Bool) (mode : Int) : rbig neg mode = (if goes neg mode 0 3 then infB neg else sgn neg + 9218868437227405311, 20) := by
  unfold rbig goes infB
  cases neg
  · by_cases h1 : mode = 1
    · subst h1; simp
    · by_cases h2 : mode = 2
      · subst h2; simp [sgn]
      · by_cases h3 : mode = 3
        · subst h3; simp
        · by_cases h4 : mode = 4
          · subst h4; simp [sgn]
          · simp [h1, h2, h3, h4]
  · by_cases h1 : mode = 1
    · subst h1; simp
    · by_cases h2 : mode = 2
      · subst h2; simp [sgn]
      · by_cases h3 : mode = 3
        · subst h3; simp [sgn]
        · by_cases h4 : mode = 4
          · subst h4; simp
          · simp [h1, h2, h3, h4]
end Go.Proofs.Ytjapilpjahhimaa
