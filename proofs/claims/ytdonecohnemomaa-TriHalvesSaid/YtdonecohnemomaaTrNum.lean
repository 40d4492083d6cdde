/- tri: a product taken away is the other's added, plain numbers. -/
import Derived.Test.YtdonecohnemomaaTrReady
import Derived.Test.YtdonecohnemomaaVeAxpy
import Derived.Test.YtdonecohnemomaaFdSpec
namespace Go.Proofs.Ytdonecohnemomaa
open Go.RowKit Go.Shelf
theorem rup_even (neg : Bool) (q : Nat) (inx : Bool) (half : Int) : rup neg 0 q inx half = rup false 0 q inx half := by
  cases neg <;> simp [rup]
theorem rnd_both (n d : Nat) (e : Int) : ∃ M, ∀ neg, (rnd neg n d e 0).1 = sgn neg + M := by
  unfold rnd
  generalize qat n d e (rexp n d e) = q
  generalize rexp n d e = x
  generalize decide (rst n d (e - x) ≠ 0) = inx
  generalize rtiny n d e = tiny
  generalize cmpN _ _ = half
  unfold fin
  simp only [rup_even _ q inx half]
  generalize (if rup false 0 q inx half then q + 1 else q) = q1
  generalize (if 9007199254740992 ≤ q1 then q1 / 2 else q1) = q2
  generalize (if 9007199254740992 ≤ q1 then x + 1 else x) = e2
  by_cases h1 : 4503599627370496 ≤ q2 ∧ 971 < e2
  · refine ⟨9218868437227405312, fun neg => ?_⟩
    rw [if_pos h1]
    cases neg <;> rfl
  · by_cases h2 : q2 < 4503599627370496
    · refine ⟨q2, fun neg => ?_⟩
      rw [if_neg h1, if_pos h2]
    · refine ⟨(e2 + 1075).toNat * 4503599627370496 + q2 - 4503599627370496, fun neg => ?_⟩
      rw [if_neg h1, if_neg h2]
      show sgn neg + _ + q2 - 4503599627370496 = _
      omega
theorem flip_sgn {b : Bool} {M : Nat} (h : M < 9223372036854775808) : flip (sgn b + M) = sgn (!b) + M := by
  have hb : sgn b + M < 18446744073709551616 := by cases b <;> unfold sgn <;> simp <;> omega
  rw [flip_eq hb]
  cases b
  · have hn : neg6 (sgn false + M) = false := by
      have := hb
      unfold neg6 sgn
      simp
      omega
    rw [hn, if_neg (by decide)]
    unfold sgn
    simp
    omega
  · have hn : neg6 (sgn true + M) = true := by
      have := hb
      unfold neg6 sgn
      simp
      omega
    rw [hn, if_pos rfl]
    unfold sgn
    simp
theorem rnd_flip {n d : Nat} {e : Int} (s : Bool) (h : (rnd true n d e 0).1 < 18446744073709551616) : (rnd (!s) n d e 0).1 = flip (rnd s n d e 0).1 := by
  obtain ⟨M, hM⟩ := rnd_both n d e
  rw [hM true] at h
  have h1 : M < 9223372036854775808 := by
    have : sgn true = 9223372036854775808 := rfl
    omega
  rw [hM, hM, flip_sgn h1]
theorem times_flip {t x : Nat} (ht : t < 18446744073709551616) (ct : cls t ≤ 1) (cx : cls x ≤ 1) : timesU (flip t) x = flip (timesU t x) := by
  obtain ⟨_, k1, _, _⟩ := flip_facts ht
  obtain ⟨k2, k3, k4⟩ := flip_told ht
  unfold timesU rmul
  rw [k1, k2, k3, k4]
  have hA : ¬ (cls t = 3 ∨ cls x = 3) := by omega
  have hB : ¬ (cls t = 2 ∧ cls x = 0 ∨ cls t = 0 ∧ cls x = 2) := by omega
  have hC : ¬ (cls t = 2 ∨ cls x = 2) := by omega
  simp only [if_neg hA, if_neg hB, if_neg hC]
  by_cases h0 : cls t = 0 ∨ cls x = 0
  · simp only [if_pos h0]
    generalize neg6 t = a
    generalize neg6 x = b
    cases a <;> cases b <;> decide
  · simp only [if_neg h0]
    have h1 : 0 < sig t := Nat.pos_of_ne_zero fun e => h0 (.inl ((cls_zero_iff ct).2 e))
    have h2 : 0 < sig x := Nat.pos_of_ne_zero fun e => h0 (.inr ((cls_zero_iff cx).2 e))
    have h3 := rnd_lt true (Nat.mul_pos h1 h2) (show 0 < 1 by decide) (xpo t + xpo x) 0
    rw [show ((!neg6 t) != neg6 x) = !(neg6 t != neg6 x) by cases neg6 t <;> cases neg6 x <;> rfl]
    exact rnd_flip _ (by omega)
theorem plus_flip {s p : Nat} (cp : cls p ≠ 3) : plusU s (flip p) = minusU s p := by
  unfold plusU minusU rsubt
  rw [if_neg cp]
theorem mag_top {s : Bool} {M : Nat} (h : M ≤ 9218868437227405312) : cls (sgn s + M) ≠ 3 := by
  have hm : mag (sgn s + M) = M := by
    have hs : sgn s = 0 ∨ sgn s = 9223372036854775808 := by cases s <;> simp [sgn]
    unfold mag
    rcases hs with h1 | h1 <;> rw [h1] <;> omega
  rw [cls_mag, hm, if_neg (by omega)]
  split
  · decide
  · split <;> decide
theorem rnd_kind {n d : Nat} {e : Int} (s : Bool) (hn : 0 < n) (hd : 0 < d) : cls (rnd s n d e 0).1 ≠ 3 := by
  have hf := rexp_fits hn hd e
  unfold rnd
  rw [fin_eq hf]
  generalize (if rup s 0 (qat n d e (rexp n d e)) (decide (rst n d (e - rexp n d e) ≠ 0)) (cmpN (2 * rst n d (e - rexp n d e)) (lower d (e - rexp n d e))) then qat n d e (rexp n d e) + 1 else qat n d e (rexp n d e)) = q1
  generalize (rexp n d e + 1074).toNat * 4503599627370496 + q1 = T
  by_cases h : 9218868437227405312 ≤ T
  · rw [if_pos h]
    exact mag_top (s := s) (M := 9218868437227405312) (by decide)
  · rw [if_neg h]
    exact mag_top (s := s) (Nat.le_of_lt (Nat.lt_of_not_le h))
theorem times_kind {t x : Nat} (ct : cls t ≤ 1) (cx : cls x ≤ 1) : cls (timesU t x) ≠ 3 := by
  have hA : ¬ (cls t = 3 ∨ cls x = 3) := by omega
  have hB : ¬ (cls t = 2 ∧ cls x = 0 ∨ cls t = 0 ∧ cls x = 2) := by omega
  have hC : ¬ (cls t = 2 ∨ cls x = 2) := by omega
  unfold timesU rmul
  simp only [if_neg hA, if_neg hB, if_neg hC]
  by_cases h0 : cls t = 0 ∨ cls x = 0
  · simp only [if_pos h0]
    rw [(sgn_kind _).1]
    decide
  · simp only [if_neg h0]
    have h1 : 0 < sig t := Nat.pos_of_ne_zero fun e => h0 (.inl ((cls_zero_iff ct).2 e))
    have h2 : 0 < sig x := Nat.pos_of_ne_zero fun e => h0 (.inr ((cls_zero_iff cx).2 e))
    exact rnd_kind _ (Nat.mul_pos h1 h2) (by decide)
/-- what is added, a factor flipped, is taken away -/
theorem plus_times {s t x : Nat} (ht : t < 18446744073709551616) (ct : cls t ≤ 1) (cx : cls x ≤ 1) : plusU s (timesU (flip t) x) = minusU s (timesU t x) := by
  rw [times_flip ht ct cx, plus_flip (times_kind ct cx)]
theorem nan_kind : cls 9221120237041090560 = 3 := by decide
/-- what is not finite stays so -/
theorem plus_stays {s p : Nat} (h : 2 ≤ cls s) : 2 ≤ cls (plusU s p) := by
  unfold plusU radd
  by_cases h1 : cls s = 3 ∨ cls p = 3
  · simp only [if_pos h1, nan_kind]; decide
  · simp only [if_neg h1]
    have h2 : cls s = 2 := by have := cls_le s; omega
    by_cases h3 : cls s = 2 ∧ cls p = 2 ∧ s ≠ p
    · simp only [if_pos h3, nan_kind]; decide
    · simp only [if_neg h3, if_pos h2]; exact h
end Go.Proofs.Ytdonecohnemomaa

/- tri: rowOf; a row's steps, plain numbers. -/
namespace Go.Proofs.Ytdonecohnemomaa
open Go.RowKit Go.Shelf
theorem tri_row {S off m cap C i : Nat} {R : Int} {w : World} (hC0 : 0 < C) (hC : C ≤ 64) (hi : i ≤ 64) (hm : i * C + C ≤ m) (hc : m ≤ cap) :
    Calls Try.prog 104 #[.agg #[.int .i64 R, .int .i64 (C : Int), .slice (some ⟨S, off, none⟩) m cap], .int .i64 (i : Int)] w fun e W' => e = .returned (.slice (some ⟨S, off + i * C, none⟩) C (cap - i * C)) ∧ Below w.heap.size w W' := by
  obtain ⟨B, G⟩ := mbox w #[.int .i64 R, .int .i64 (C : Int), .slice (some ⟨S, off, none⟩) m cap] 24 _ rfl
  have c1 := G.cell (i := 1) rfl
  have c2 := G.cell (i := 2) rfl
  obtain ⟨P, hP⟩ : ∃ P, P = i * C := ⟨_, rfl⟩
  obtain ⟨Q, hQ⟩ : ∃ Q, Q = i * C + C := ⟨_, rfl⟩
  have hrc := Nat.mul_le_mul hi hC
  have e1 : IntKind.i64.wrap ((i : Int) * (C : Int)) = (P : Int) := by rw [← Int.natCast_mul, ← hP]; exact IntWalk.i64_in _ (by omega)
  have e2 : IntKind.i64.wrap (((i : Int) + 1) * (C : Int)) = (Q : Int) := by
    rw [show ((i : Int) + 1) * (C : Int) = (Q : Int) by rw [Int.add_mul, Int.one_mul, ← Int.natCast_mul, hQ, Int.natCast_add]]
    exact IntWalk.i64_in _ (by omega)
  have g1 : (P : Int) ≤ (Q : Int) := by omega
  have g2 : (Q : Int) ≤ (cap : Int) := by omega
  have g3 : Q - P = C := by omega
  have g4 : P ≤ cap := by omega
  have g5 : ¬ cap = P := by omega
  have hi1 : (i : Int) ≤ 64 := by omega
  rw [← hP]
  clear hP hQ hrc hm hc
  go_enter Try.func104, Try.ntmps104
  go_wp2
  go_ret
  exact ⟨rfl, B⟩
/-- row i of X behind k products taken away: those of places first, first + 1, .. -/
def rowS (R c : Nat) (ts X : List Nat) (i first : Nat) : Nat → List Nat
  | 0 => partW X (i * c) c
  | k + 1 => axpyV (flip (lim ts (i * R + (first + k)))) (partW X ((first + k) * c) c) (rowS R c ts X i first k)
theorem rowS_length {R c : Nat} {ts X : List Nat} {i first k : Nat} : (rowS R c ts X i first k).length = c := by
  cases k with
  | zero => exact partW_length _ _ _
  | succ k =>
    have : (rowS R c ts X i first k).length = c := rowS_length
    unfold rowS axpyV
    rw [rowV_length, partW_length, this, Nat.min_self]
theorem rowS_at {R c : Nat} {ts X : List Nat} {i first k j : Nat} (hj : j < c) : lim (rowS R c ts X i first (k + 1)) j = plusU (lim (rowS R c ts X i first k) j) (timesU (flip (lim ts (i * R + (first + k)))) (lim X ((first + k) * c + j))) := by
  show lim (axpyV _ _ _) j = _
  unfold axpyV
  rw [partW_length, rowS_length, Nat.min_self, rowV_lim _ hj, partW_at hj]
theorem inf_kind (s : Bool) : cls (infB s) = 2 := by cases s <;> decide
theorem quot_stays {a b : Nat} (h : 2 ≤ cls a) (hb : cls b ≤ 1) : 2 ≤ cls (rdiv6 a b 0).1 := by
  unfold rdiv6
  by_cases h1 : cls a = 3 ∨ cls b = 3
  · simp only [if_pos h1, nan_kind]; decide
  · have h2 : cls a = 2 := by have := cls_le a; omega
    have h3 : ¬ (cls a = 0 ∧ cls b = 0 ∨ cls a = 2 ∧ cls b = 2) := by omega
    simp only [if_neg h1, if_neg h3, if_pos h2, inf_kind]
    decide
/-- a row that is finite behind k + 1 products was so behind k -/
theorem rowS_stays {R c : Nat} {ts X : List Nat} {i first k j : Nat} (hj : j < c) (h : cls (lim (rowS R c ts X i first (k + 1)) j) ≤ 1) : cls (lim (rowS R c ts X i first k) j) ≤ 1 := by
  rw [rowS_at hj] at h
  rcases Nat.lt_or_ge (cls (lim (rowS R c ts X i first k) j)) 2 with h1 | h1
  · omega
  · have := plus_stays (p := timesU (flip (lim ts (i * R + (first + k)))) (lim X ((first + k) * c + j))) h1
    omega
theorem rowS_back {R c : Nat} {ts X : List Nat} {i first k n j : Nat} (hj : j < c) (hk : k ≤ n) (h : cls (lim (rowS R c ts X i first n) j) ≤ 1) : cls (lim (rowS R c ts X i first k) j) ≤ 1 := by
  induction n with
  | zero => obtain rfl : k = 0 := by omega
            exact h
  | succ n ih =>
    by_cases e : k = n + 1
    · rw [e]; exact h
    · exact ih (by omega) (rowS_stays hj h)
end Go.Proofs.Ytdonecohnemomaa
