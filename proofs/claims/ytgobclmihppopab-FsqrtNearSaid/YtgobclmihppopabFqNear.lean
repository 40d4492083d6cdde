/- A number rounded down, up, toward 0, to the nearest: how these stand to each other. No program is named here. -/
import Derived.Test.YtgobclmihppopabRndOne
import Derived.Test.YtgobclmihppopabFqNum
namespace Go.Proofs.Ytgobclmihppopab

theorem sgn_false : sgn false = 0 := rfl
theorem sgn_true : sgn true = 9223372036854775808 := rfl
def Modes (a f b g z n w c : Nat) : Prop :=
  a ≤ b ∧ b - a ≤ 1 ∧ z = a ∧ (n = a ∨ n = b) ∧ (w = a ∨ w = b) ∧ n ≤ w ∧ c = a + 9223372036854775808 ∧ (f = g ∨ a ≠ b) ∧ b ≤ 9218868437227405312
theorem fin_modes {q : Nat} {e : Int} {inx tiny : Bool} {half : Int} (hf : Fits q e) (hh : inx = false → half = -1) :
    Modes (fin false 4 q e inx tiny half).1 (fin false 4 q e inx tiny half).2 (fin false 3 q e inx tiny half).1 (fin false 3 q e inx tiny half).2 (fin false 2 q e inx tiny half).1 (fin false 0 q e inx tiny half).1 (fin false 1 q e inx tiny half).1 (fin true 3 q e inx tiny half).1 := by
  simp only [fin_eq hf]
  have u4 : rup false 4 q inx half = false := by simp [rup]
  have u3 : rup false 3 q inx half = inx := by simp [rup]
  have u2 : rup false 2 q inx half = false := by simp [rup]
  have v3 : rup true 3 q inx half = false := by simp [rup]
  have u1 : rup false 1 q inx half = decide (0 ≤ half) := by simp [rup]
  have u0 : rup false 0 q inx half = (decide (0 < half) || (decide (half = 0) && decide (q % 2 = 1))) := by simp [rup]
  obtain ⟨p, hp⟩ : ∃ p, p = rup false 0 q inx half := ⟨_, rfl⟩
  obtain ⟨p1, hp1⟩ : ∃ p1, p1 = rup false 1 q inx half := ⟨_, rfl⟩
  rw [← hp1] at u1
  rw [← hp] at u0
  have k1 : p1 = true → inx = true := by
    intro h
    cases inx
    · rw [hh rfl] at u1
      rw [h] at u1
      exact absurd u1 (by decide)
    · rfl
  have k0 : p = true → p1 = true := by
    intro h
    rw [u1]
    rw [h] at u0
    simp at u0
    exact decide_eq_true (by omega)
  rw [u4, u3, u2, v3, ← hp, ← hp1]
  clear hp hp1 u0 u1 u2 u3 u4 v3 hh
  have b4 : rbig false 4 = (9218868437227405311, 20) := rfl
  have b3 : rbig false 3 = (9218868437227405312, 20) := rfl
  have b2 : rbig false 2 = (9218868437227405311, 20) := rfl
  have b1 : rbig false 1 = (9218868437227405312, 20) := rfl
  have b0 : rbig false 0 = (9218868437227405312, 20) := rfl
  have c3 : rbig true 3 = (18442240474082181119, 20) := rfl
  rw [b4, b3, b2, b1, b0, c3, sgn_false, sgn_true]
  simp only [Bool.false_eq_true, if_false]
  generalize (e + 1074).toNat * 4503599627370496 = t
  unfold Modes
  cases inx
  · have hp1 : p1 = false := by cases p1; rfl; exact absurd (k1 rfl) (by decide)
    have hp : p = false := by cases p; rfl; rw [hp1] at k0; exact absurd (k0 rfl) (by decide)
    subst hp1 hp
    simp only [Bool.false_eq_true, if_false]
    by_cases h : 9218868437227405312 ≤ t + q
    · simp only [h, if_true]; (refine ⟨?_, ?_, ?_, ?_, ?_, ?_, ?_, ?_, ?_⟩ <;> first | exact True.intro | exact .inl True.intro | exact .inr True.intro | omega)
    · simp only [h, if_false]; (refine ⟨?_, ?_, ?_, ?_, ?_, ?_, ?_, ?_, ?_⟩ <;> first | exact True.intro | exact .inl True.intro | exact .inr True.intro | omega)
  · simp only [if_true]
    by_cases h : 9218868437227405312 ≤ t + q
    · have h' : 9218868437227405312 ≤ t + (q + 1) := by omega
      simp only [h, h', if_true]
      have e1 : ∀ b : Bool, 9218868437227405312 ≤ t + (if b = true then q + 1 else q) := by intro b; split <;> omega
      simp only [e1, if_true]
      refine ⟨?_, ?_, ?_, ?_, ?_, ?_, ?_, ?_, ?_⟩ <;> first | exact True.intro | exact .inl True.intro | exact .inr True.intro | omega
    · simp only [h, if_false]
      by_cases h' : 9218868437227405312 ≤ t + (q + 1)
      · simp only [h', if_true]
        cases p1
        · have hp : p = false := by cases p; rfl; exact absurd (k0 rfl) (by decide)
          subst hp
          simp only [Bool.false_eq_true, h, if_false]
          refine ⟨?_, ?_, ?_, ?_, ?_, ?_, ?_, ?_, ?_⟩ <;> first | exact True.intro | exact .inl True.intro | exact .inr True.intro | omega
        · cases p
          · simp only [Bool.false_eq_true, h, h', if_true, if_false]; (refine ⟨?_, ?_, ?_, ?_, ?_, ?_, ?_, ?_, ?_⟩ <;> first | exact True.intro | exact .inl True.intro | exact .inr True.intro | omega)
          · simp only [h', if_true]; (refine ⟨?_, ?_, ?_, ?_, ?_, ?_, ?_, ?_, ?_⟩ <;> first | exact True.intro | exact .inl True.intro | exact .inr True.intro | omega)
      · simp only [h', if_false]
        cases p1
        · have hp : p = false := by cases p; rfl; exact absurd (k0 rfl) (by decide)
          subst hp
          simp only [Bool.false_eq_true, h, if_false]
          refine ⟨?_, ?_, ?_, ?_, ?_, ?_, ?_, ?_, ?_⟩ <;> first | exact True.intro | exact .inl True.intro | exact .inr True.intro | omega
        · cases p
          · simp only [Bool.false_eq_true, h, h', if_true, if_false]; (refine ⟨?_, ?_, ?_, ?_, ?_, ?_, ?_, ?_, ?_⟩ <;> first | exact True.intro | exact .inl True.intro | exact .inr True.intro | omega)
          · simp only [h', if_true, if_false]; (refine ⟨?_, ?_, ?_, ?_, ?_, ?_, ?_, ?_, ?_⟩ <;> first | exact True.intro | exact .inl True.intro | exact .inr True.intro | omega)
theorem rnd_modes {num den : Nat} (hn : 0 < num) (hd : 0 < den) (exp : Int) :
    Modes (rnd false num den exp 4).1 (rnd false num den exp 4).2 (rnd false num den exp 3).1 (rnd false num den exp 3).2 (rnd false num den exp 2).1 (rnd false num den exp 0).1 (rnd false num den exp 1).1 (rnd true num den exp 3).1 := by
  unfold rnd
  refine fin_modes (rexp_fits hn hd exp) ?_
  intro h
  have h0 : rst num den (exp - rexp num den exp) = 0 := by
    have := of_decide_eq_false h
    omega
  rw [h0]
  exact cmpN_lt (by have := lower_pos hd (exp - rexp num den exp); omega)
theorem rnd_mode0 {neg : Bool} {num den : Nat} {exp mode : Int} (h : mode < 0 ∨ 4 < mode) : rnd neg num den exp mode = rnd neg num den exp 0 := by
  have hu : ∀ q inx half, rup neg mode q inx half = rup neg 0 q inx half := by
    intro q inx half
    unfold rup
    rw [if_neg (by omega), if_neg (by omega), if_neg (by omega), if_neg (by omega), if_neg (by decide), if_neg (by decide), if_neg (by decide), if_neg (by decide)]
  have hb : rbig neg mode = rbig neg 0 := by
    unfold rbig
    rw [if_neg (by omega), if_neg (by omega)]
  unfold rnd fin
  simp only [hu, hb]
end Go.Proofs.Ytgobclmihppopab

/- Rounded down, a number is not above; rounded up, not below; roots between. No program is named here. -/
namespace Go.Proofs.Ytgobclmihppopab

theorem rnd_down_le {num den c : Nat} {exp : Int} (hn : 0 < num) (hd : 0 < den) (hc : fe c ≠ 2047)
    (h : upper num (exp - xpo c) ≤ sig c * lower den (exp - xpo c)) : (rnd false num den exp 4).1 ≤ (xpo c + 1074).toNat * 4503599627370496 + sig c := by
  have hf := rexp_fits hn hd exp
  obtain ⟨⟨c1, c2, c3⟩, c4, c5⟩ := sig_fits hc
  have hq : qat num den exp (xpo c) ≤ sig c := by
    unfold qat quo
    exact Nat.div_le_of_le_mul (by rw [Nat.mul_comm]; exact h)
  unfold rnd
  rw [fin_eq hf]
  have hu : ∀ q inx half, rup false 4 q inx half = false := fun q inx half => by simp [rup]
  rw [hu, if_neg Bool.false_ne_true]
  obtain ⟨f1, f2, f3⟩ := hf
  have hge : rexp num den exp > xpo c → qat num den exp (rexp num den exp) ≤ qat num den exp (xpo c) / 2 := by
    intro hh
    rw [← qat_succ num hd]
    unfold qat
    exact quo_le num hd (by omega)
  have heq : rexp num den exp = xpo c → qat num den exp (rexp num den exp) = qat num den exp (xpo c) := fun hh => by rw [hh]
  generalize rexp num den exp = e at *
  generalize qat num den exp e = q at *
  generalize qat num den exp (xpo c) = qc at *
  have key : (e + 1074).toNat * 4503599627370496 + q ≤ (xpo c + 1074).toNat * 4503599627370496 + sig c := by
    rcases Int.lt_trichotomy e (xpo c) with hh | hh | hh
    · obtain ⟨i, hi⟩ : ∃ i : Nat, e + 1074 = i := ⟨(e + 1074).toNat, by omega⟩
      obtain ⟨j, hj⟩ : ∃ j : Nat, xpo c + 1074 = j := ⟨(xpo c + 1074).toNat, by omega⟩
      rw [hi, hj, Int.toNat_natCast, Int.toNat_natCast]
      omega
    · have := heq hh
      rw [hh]
      omega
    · have := hge hh
      omega
  split
  · rename_i hb
    omega
  · dsimp only
    have : sgn false = 0 := rfl
    omega
theorem rnd_up_ge {num den c : Nat} {exp : Int} (hn : 0 < num) (hd : 0 < den) (hc : fe c ≠ 2047)
    (h : sig c * lower den (exp - xpo c) ≤ upper num (exp - xpo c)) : (xpo c + 1074).toNat * 4503599627370496 + sig c ≤ (rnd false num den exp 3).1 := by
  have hf := rexp_fits hn hd exp
  obtain ⟨⟨c1, c2, c3⟩, c4, c5⟩ := sig_fits hc
  have hq : sig c ≤ qat num den exp (xpo c) := by
    unfold qat quo
    exact (Nat.le_div_iff_mul_le (lower_pos hd _)).2 h
  unfold rnd
  rw [fin_eq hf]
  obtain ⟨f1, f2, f3⟩ := hf
  have hlt : rexp num den exp < xpo c → qat num den exp (xpo c) ≤ qat num den exp (rexp num den exp) / 2 := by
    intro hh
    rw [← qat_succ num hd]
    unfold qat
    exact quo_le num hd (by omega)
  have heq : rexp num den exp = xpo c → qat num den exp (rexp num den exp) = qat num den exp (xpo c) := fun hh => by rw [hh]
  generalize hup : rup false 3 (qat num den exp (rexp num den exp)) (decide (rst num den (exp - rexp num den exp) ≠ 0)) (cmpN (2 * rst num den (exp - rexp num den exp)) (lower den (exp - rexp num den exp))) = up
  clear hup
  generalize rexp num den exp = e at *
  generalize qat num den exp e = q at *
  generalize qat num den exp (xpo c) = qc at *
  have key : (xpo c + 1074).toNat * 4503599627370496 + sig c ≤ (e + 1074).toNat * 4503599627370496 + q := by
    rcases Int.lt_trichotomy e (xpo c) with hh | hh | hh
    · have := hlt hh
      omega
    · have := heq hh
      rw [hh]
      omega
    · obtain ⟨i, hi⟩ : ∃ i : Nat, e + 1074 = i := ⟨(e + 1074).toNat, by omega⟩
      obtain ⟨j, hj⟩ : ∃ j : Nat, xpo c + 1074 = j := ⟨(xpo c + 1074).toNat, by omega⟩
      rw [hi, hj, Int.toNat_natCast, Int.toNat_natCast]
      omega
  have hup : q ≤ (if up = true then q + 1 else q) := by split <;> omega
  generalize (if up = true then q + 1 else q) = q1 at *
  by_cases hb : 9218868437227405312 ≤ (e + 1074).toNat * 4503599627370496 + q1
  · rw [if_pos hb]
    have : (rbig false 3).1 = 9218868437227405312 := rfl
    omega
  · rw [if_neg hb]
    dsimp only
    omega
theorem up_low {A B a T : Nat} {z : Int} (hz : z = (a : Int) - T) : (A * 2 ^ a ≤ B * 2 ^ T → upper A z ≤ B * lower 1 z) ∧ (B * 2 ^ T ≤ A * 2 ^ a → B * lower 1 z ≤ upper A z) := by
  subst hz
  unfold upper lower pw
  rw [Nat.one_mul]
  rcases Nat.le_total T a with h | h
  · obtain ⟨d, rfl⟩ : ∃ d, a = T + d := ⟨a - T, by omega⟩
    rw [show (((T + d : Nat) : Int) - T).toNat = d by omega, show (-(((T + d : Nat) : Int) - T)).toNat = 0 by omega, Nat.pow_zero, Nat.mul_one, Nat.add_comm T d, Nat.pow_add, ← Nat.mul_assoc]
    exact ⟨fun h => Nat.le_of_mul_le_mul_right h (Nat.two_pow_pos T), fun h => Nat.le_of_mul_le_mul_right h (Nat.two_pow_pos T)⟩
  · obtain ⟨d, rfl⟩ : ∃ d, T = a + d := ⟨T - a, by omega⟩
    rw [show ((a : Int) - ((a + d : Nat) : Int)).toNat = 0 by omega, show (-((a : Int) - ((a + d : Nat) : Int))).toNat = d by omega, Nat.pow_zero, Nat.mul_one, Nat.add_comm a d, Nat.pow_add, ← Nat.mul_assoc]
    exact ⟨fun h => Nat.le_of_mul_le_mul_right h (Nat.two_pow_pos a), fun h => Nat.le_of_mul_le_mul_right h (Nat.two_pow_pos a)⟩
/-- a number's square, rounded -/
theorem square_bits {q : Nat} {e : Int} (hf : Fits q e) (h0 : 0 < q) (he : e ≤ 971) :
    ∃ x, x = (e + 1074).toNat * 4503599627370496 + q ∧ ∀ mode, rmul x x mode = rnd false (q * q) 1 (e + e) mode := by
  have hl : (e + 1074).toNat * 4503599627370496 + q < 9218868437227405312 := by obtain ⟨a, b, c⟩ := hf; omega
  obtain ⟨h1, h2⟩ := enc_fields false hf hl
  have hs0 : sgn false = 0 := rfl
  rw [hs0, Nat.zero_add] at h1 h2
  refine ⟨_, rfl, fun mode => ?_⟩
  obtain ⟨k1, _⟩ := sgn_fields false (t := (e + 1074).toNat * 4503599627370496 + q) (by omega)
  rw [hs0, Nat.zero_add] at k1
  generalize (e + 1074).toNat * 4503599627370496 + q = x at *
  have hn : neg6 x = false := decide_eq_false (by omega)
  have hfe : fe x ≠ 2047 := by rw [k1]; omega
  have hc := cls_of_fe hfe
  have hne : cls x ≠ 0 := fun hh => by have := (cls_zero_iff hc).1 hh; omega
  unfold rmul
  rw [hn, if_neg (by omega), if_neg (by omega), if_neg (by omega), if_neg (by omega), h1, h2]
  rfl
/-- the sticky root, rounded down and up -/
theorem root_near {c : Nat} (hc64 : c < 18446744073709551616) (nc : neg6 c = false) (cc : cls c = 1) :
    ∃ x f y g, rsqrt c 4 = (x, f) ∧ rsqrt c 3 = (y, g) ∧ x ≤ y ∧ y - x ≤ 1 ∧ y ≤ 9218868437227405312 ∧ (rmul x x 4).1 ≤ c ∧ c ≤ (rmul y y 3).1 := by
  have hfc : fe c ≠ 2047 := cls_fin.1 (by omega)
  have hsc := sig_pos cc
  have hsc2 := (sig_fits hfc).1.2.1
  have hxc := xpo_range06 c
  have hrs : ∀ mode, rsqrt c mode = rootN (sig c) (xpo c) mode := by
    intro mode
    unfold rsqrt
    rw [if_neg (by omega), if_neg (by omega), nc, if_neg Bool.false_ne_true, if_neg (by omega)]
  rw [hrs, hrs]
  unfold rootN
  obtain ⟨f1, f2, f3, f4⟩ := sqt_facts (m := sig c) (x := xpo c)
  generalize sqt (sig c) (xpo c) = T at *
  have hb := nbits_shift hsc T
  have hN0 : 0 < sig c * 2 ^ T := Nat.mul_pos hsc (Nat.two_pow_pos _)
  obtain ⟨k1, k2, k3⟩ := nbits_bounds (Nat.ne_of_gt hN0)
  have hnp : nbits (sig c) ≤ 53 := nbits_le (show sig c < 2 ^ 53 from hsc2)
  have hN1 : sig c * 2 ^ T < (0 + 2 ^ 71) * (0 + 2 ^ 71) := by
    have h2 : 2 ^ nbits (sig c * 2 ^ T) ≤ 2 ^ 121 := Nat.pow_le_pow_right (by decide) (by omega)
    have h3 : (2 : Nat) ^ 121 < (0 + 2 ^ 71) * (0 + 2 ^ 71) := by decide
    omega
  have hN2 : 2 ^ 119 ≤ sig c * 2 ^ T := Nat.le_trans (Nat.pow_le_pow_right (by decide) (by omega)) k2
  obtain ⟨y0, hy⟩ : ∃ y, xpo c - (T : Int) = 2 * y := ⟨(xpo c - (T : Int)) / 2, by omega⟩
  rw [hy, show (2 * y0) / 2 = y0 by omega]
  obtain ⟨g1, g2⟩ := rtF_sq (n := sig c * 2 ^ T) 71 (q := 0) (by omega) hN1
  have hr : rtF (sig c * 2 ^ T) 71 0 = rt (sig c * 2 ^ T) := rfl
  rw [hr] at g1 g2
  generalize hn : sig c * 2 ^ T = n at *
  generalize rt n = r at *
  have hr1 : 2 ^ 59 ≤ r := by
    refine Nat.not_lt.1 fun hh => ?_
    have h1 : (r + 1) * (r + 1) ≤ 2 ^ 59 * 2 ^ 59 := Nat.mul_le_mul hh hh
    have h2 : (2 : Nat) ^ 59 * 2 ^ 59 < 2 ^ 119 := by decide
    omega
  have hr2 : r < 2 ^ 61 := by
    refine Nat.not_le.1 fun hh => ?_
    have h1 : 2 ^ 61 * 2 ^ 61 ≤ r * r := Nat.mul_le_mul hh hh
    have h2 : n < 2 ^ 121 := Nat.lt_of_lt_of_le k3 (Nat.pow_le_pow_right (by decide) (by omega))
    have h3 : (2 : Nat) ^ 121 < 2 ^ 61 * 2 ^ 61 := by decide
    omega
  obtain ⟨N, hN⟩ : ∃ N, N = 2 * r + (if r * r < n then 1 else 0) := ⟨_, rfl⟩
  rw [← hN]
  have hNr : 2 * r ≤ N ∧ N ≤ 2 * r + 1 ∧ (N = 2 * r → r * r = n) := by
    rw [hN]
    by_cases hm : r * r < n
    · rw [if_pos hm]; exact ⟨by omega, by omega, by omega⟩
    · rw [if_neg hm]; exact ⟨by omega, by omega, by omega⟩
  obtain ⟨e1, e2, e3⟩ := hNr
  clear hN
  have hNp : 0 < N := by have := Nat.two_pow_pos 59; omega
  have hb1 : 61 ≤ nbits N := by
    refine Nat.not_lt.1 fun hh => ?_
    have h1 := nbits_lt N
    have h2 : 2 ^ nbits N ≤ 2 ^ 60 := Nat.pow_le_pow_right (by decide) (by omega)
    have h3 : 2 * (2 : Nat) ^ 59 = 2 ^ 60 := by decide
    omega
  have hb2 : nbits N ≤ 63 := nbits_le (by have h3 : 2 * (2 : Nat) ^ 61 + 1 < 2 ^ 63 := by decide
                                          omega)
  obtain ⟨j, hj⟩ : ∃ j, nbits N = 53 + (j + 1) := ⟨nbits N - 54, by omega⟩
  have hrx : rx N (y0 - 1) = y0 - 1 + ((j + 1 : Nat) : Int) := by unfold rx; omega
  have hF := fits_down hNp hrx
  have hdn := fun mode => rnd_down (neg := false) (mode := mode) hNp hrx
  obtain ⟨q, hq⟩ : ∃ q, q = N / 2 ^ (j + 1) := ⟨_, rfl⟩
  obtain ⟨m, hm⟩ : ∃ m, m = N % 2 ^ (j + 1) := ⟨_, rfl⟩
  have hqm : q * 2 ^ (j + 1) + m = N := by rw [hq, hm, Nat.mul_comm, Nat.div_add_mod]
  have hml : m < 2 ^ (j + 1) := by rw [hm]; exact Nat.mod_lt _ (Nat.two_pow_pos _)
  rw [← hq] at hF hdn
  rw [← hm] at hdn
  obtain ⟨e, he⟩ : ∃ e, e = y0 - 1 + ((j + 1 : Nat) : Int) := ⟨_, rfl⟩
  rw [← he] at hF hdn
  rw [hdn, hdn, fin_eq hF, fin_eq hF]
  obtain ⟨F1, F2, F3⟩ := hF
  have he971 : e ≤ 900 := by omega
  have u4 : ∀ q inx half, rup false 4 q inx half = false := fun q inx half => by simp [rup]
  have u3 : ∀ q inx half, rup false 3 q inx half = inx := fun q inx half => by simp [rup]
  rw [u4, u3, if_neg Bool.false_ne_true, if_neg (by omega)]
  obtain ⟨q1, hq1⟩ : ∃ q1, q1 = (if decide (m ≠ 0) = true then q + 1 else q) := ⟨_, rfl⟩
  have hq1b : q ≤ q1 ∧ q1 ≤ q + 1 ∧ N ≤ q1 * 2 ^ (j + 1) := by
    rw [hq1]
    by_cases h0 : m = 0
    · rw [decide_eq_false (fun h => h h0), if_neg Bool.false_ne_true]; exact ⟨Nat.le_refl _, by omega, by omega⟩
    · rw [decide_eq_true h0, if_pos rfl, Nat.add_mul, Nat.one_mul]; exact ⟨by omega, Nat.le_refl _, by omega⟩
  rw [← hq1, if_neg (by omega)]
  obtain ⟨b1, b2, b3⟩ := hq1b
  have hs0 : sgn false = 0 := rfl
  rw [hs0, Nat.zero_add, Nat.zero_add]
  have hcb : c = (xpo c + 1074).toNat * 4503599627370496 + sig c := by
    have h1 := bits_eq hc64
    rw [nc, hs0] at h1
    have h2 := (sig_fits hfc).2.1
    omega
  have hpw : (2 : Nat) ^ (j + 1) = 2 * 2 ^ j := by rw [Nat.pow_succ, Nat.mul_comm]
  refine ⟨_, _, _, _, rfl, rfl, by omega, by omega, by omega, ?_, ?_⟩
  · obtain ⟨x, hx, hmul⟩ := square_bits (q := q) (e := e) ⟨F1, F2, F3⟩ (by omega) (by omega)
    rw [← hx, hmul, hcb]
    have hle : q * 2 ^ j * (q * 2 ^ j) ≤ n := by
      have : q * 2 ^ j ≤ r := by
        rw [hpw, Nat.mul_left_comm] at hqm
        omega
      exact Nat.le_trans (Nat.mul_le_mul this this) g1
    have hh : q * q * 2 ^ (2 * j) ≤ sig c * 2 ^ T := by
      rw [hn]
      have : q * q * 2 ^ (2 * j) = q * 2 ^ j * (q * 2 ^ j) := by
        rw [Nat.two_mul, Nat.pow_add]
        simp only [Nat.mul_comm, Nat.mul_left_comm, Nat.mul_assoc]
      rw [this]
      exact hle
    exact rnd_down_le (Nat.mul_pos (by omega) (by omega)) (by decide) hfc ((up_low (a := 2 * j) (T := T) (by omega)).1 hh)
  · have hge : n ≤ q1 * 2 ^ j * (q1 * 2 ^ j) := by
      rw [hpw, Nat.mul_left_comm] at b3
      by_cases h0 : N = 2 * r
      · have : r ≤ q1 * 2 ^ j := by omega
        rw [← e3 h0]
        exact Nat.mul_le_mul this this
      · have : r + 1 ≤ q1 * 2 ^ j := by omega
        exact Nat.le_of_lt (Nat.lt_of_lt_of_le g2 (Nat.mul_le_mul this this))
    have hsqr : q1 * 2 ^ j * (q1 * 2 ^ j) = q1 * q1 * 2 ^ (2 * j) := by
      rw [Nat.two_mul, Nat.pow_add]
      simp only [Nat.mul_comm, Nat.mul_left_comm, Nat.mul_assoc]
    by_cases hlt : q1 < 9007199254740992
    · obtain ⟨x, hx, hmul⟩ := square_bits (q := q1) (e := e) ⟨F1, hlt, by omega⟩ (by omega) (by omega)
      rw [← hx, hmul]
      have hh : sig c * 2 ^ T ≤ q1 * q1 * 2 ^ (2 * j) := by rw [hn, ← hsqr]; exact hge
      have := rnd_up_ge (num := q1 * q1) (den := 1) (exp := e + e) (Nat.mul_pos (by omega) (by omega)) (by decide) hfc ((up_low (a := 2 * j) (T := T) (by omega)).2 hh)
      omega
    · have hq53 : q1 = 9007199254740992 := by omega
      obtain ⟨x, hx, hmul⟩ := square_bits (q := 4503599627370496) (e := e + 1) ⟨by omega, by decide, .inl (by decide)⟩ (by decide) (by omega)
      have hx2 : (e + 1074).toNat * 4503599627370496 + q1 = x := by
        rw [hx, hq53, show (e + 1 + 1074).toNat = (e + 1074).toNat + 1 by omega]
        omega
      rw [hx2, hmul]
      have hh : sig c * 2 ^ T ≤ 4503599627370496 * 4503599627370496 * 2 ^ (2 * j + 2) := by
        have : 4503599627370496 * 4503599627370496 * 2 ^ (2 * j + 2) = q1 * q1 * 2 ^ (2 * j) := by
          rw [hq53, Nat.pow_add, Nat.mul_comm (2 ^ (2 * j)), ← Nat.mul_assoc]
        rw [this, hn, ← hsqr]
        exact hge
      have := rnd_up_ge (num := 4503599627370496 * 4503599627370496) (den := 1) (exp := e + 1 + (e + 1)) (by decide) (by decide) hfc ((up_low (a := 2 * j + 2) (T := T) (by omega)).2 hh)
      omega
end Go.Proofs.Ytgobclmihppopab
