/- Quotients: plain numbers. -/
import Derived.Test.YtdonecohnemomaaFmNum
import Derived.Test.YtdonecohnemomaaRefDv
namespace Go.Proofs.Ytdonecohnemomaa

/-- whatever fraction is a number is told as that -/
theorem rnd_told {a num den : Nat} {exp mode : Int} (ha : a < 18446744073709551616) (hc : fe a ≠ 2047) (h0 : sig a ≠ 0) (hd : 0 < den)
    (h : upper num (exp - xpo a) = sig a * lower den (exp - xpo a)) : rnd (neg6 a) num den exp mode = (a, 0) := by
  obtain ⟨hf, he, hl⟩ := sig_fits hc
  have hlp := lower_pos hd (exp - xpo a)
  have hn : 0 < num := by
    rcases Nat.eq_zero_or_pos num with z | z
    · subst z
      rw [upper_zero] at h
      have : 0 < sig a * lower den (exp - xpo a) := Nat.mul_pos (by omega) hlp
      omega
    · exact z
  rw [rnd_char (e := xpo a) (q := sig a) (r := 0) hn hd hf (by rw [h]; omega) hlp, fin_eq hf, cmpN_lt (by omega)]
  have hu : rup (neg6 a) mode (sig a) (decide ((0 : Nat) ≠ 0)) (-1) = false := by
    unfold rup
    split
    · rfl
    · split
      · rfl
      · split
        · rfl
        · split
          · rfl
          · rfl
  rw [hu, if_neg Bool.false_ne_true, he, if_neg (by omega)]
  have hb := bits_eq ha
  simp only [Prod.mk.injEq]
  exact ⟨by omega, by simp [rflags]⟩
theorem rdiv_self {a : Nat} {mode : Int} (hc : cls a = 1) : rdiv6 a a mode = (4607182418800017408, 0) := by
  have e1 : neg6 4607182418800017408 = false := by decide
  have e2 : sig 4607182418800017408 = 4503599627370496 := by decide
  have e3 : xpo 4607182418800017408 = -52 := by decide
  have hn : (neg6 a != neg6 a) = false := by cases neg6 a <;> rfl
  unfold rdiv6
  rw [hn, if_neg (by omega), if_neg (by omega), if_neg (by omega), if_neg (by omega), if_neg (by omega), ← e1]
  refine rnd_told (by decide) (by decide) (by decide) (sig_pos hc) ?_
  rw [e2, e3, Int.sub_self, show (0 : Int) - -52 = ((52 : Nat) : Int) from rfl, upper_nat]
  unfold lower
  rw [pw_of_le (by omega), Nat.mul_one, Nat.mul_comm]
theorem rdiv_one {a : Nat} {mode : Int} (ha : a < 18446744073709551616) (hc : cls a = 1) : rdiv6 a 4607182418800017408 mode = (a, 0) := by
  have c1 : cls 4607182418800017408 = 1 := by decide
  have e1 : neg6 4607182418800017408 = false := by decide
  have e2 : sig 4607182418800017408 = 4503599627370496 := by decide
  have e3 : xpo 4607182418800017408 = -52 := by decide
  have hn : (neg6 a != false) = neg6 a := by cases neg6 a <;> rfl
  unfold rdiv6
  rw [c1, e1, e2, e3, hn, if_neg (by omega), if_neg (by omega), if_neg (by omega), if_neg (by omega), if_neg (by omega)]
  refine rnd_told ha (cls_fin.1 (by omega)) (by have := sig_pos hc; omega) (by decide) ?_
  rw [show xpo a - -52 - xpo a = ((52 : Nat) : Int) by omega, upper_nat]
  unfold lower
  rw [pw_of_le (by omega), Nat.mul_one]
/-- a is told as the whole number n -/
def Whole6 (a n : Nat) : Prop := a < 18446744073709551616 ∧ neg6 a = false ∧ fe a ≠ 2047 ∧ ∃ j : Nat, sig a = n * 2 ^ j ∧ xpo a = -(j : Int) ∧ j ≤ 52
theorem whole6_bits {n j : Nat} (h1 : 4503599627370496 ≤ n * 2 ^ j) (h2 : n * 2 ^ j < 9007199254740992) (hj : j ≤ 52) : ∃ a, Whole6 a n := by
  obtain ⟨s, s1, s2, s3, s4, s5⟩ := bits_of false (q := n * 2 ^ j) (e := -(j : Int)) ⟨by omega, h2, .inl h1⟩ (by omega)
  exact ⟨s, s1, s2, s3, j, s4, s5, hj⟩
theorem whole6_has {n : Nat} (h1 : 0 < n) (h2 : n < 9007199254740992) : ∃ a, Whole6 a n := by
  obtain ⟨n1, n2, n3⟩ := nbits_bounds (Nat.ne_of_gt h1)
  have hn : nbits n ≤ 53 := nbits_le (show n < 2 ^ 53 from h2)
  obtain ⟨j, hj⟩ : ∃ j, nbits n + j = 53 := ⟨53 - nbits n, by omega⟩
  refine whole6_bits (j := j) ?_ ?_ (by omega)
  · have : 2 ^ (nbits n - 1) * 2 ^ j ≤ n * 2 ^ j := Nat.mul_le_mul_right _ n2
    rw [← Nat.pow_add, show nbits n - 1 + j = 52 by omega] at this
    exact this
  · have : n * 2 ^ j < 2 ^ nbits n * 2 ^ j := Nat.mul_lt_mul_of_pos_right n3 (Nat.two_pow_pos _)
    rw [← Nat.pow_add, hj] at this
    exact this
theorem whole6_cls {a n : Nat} (h : Whole6 a n) (hn : 0 < n) : cls a = 1 ∧ sig a ≠ 0 := by
  obtain ⟨h1, h2, h3, j, h4, h5, h6⟩ := h
  have hs : sig a ≠ 0 := by
    rw [h4]
    have := Nat.mul_pos hn (Nat.two_pow_pos j)
    omega
  have hc := cls_of_fe h3
  have hne : cls a ≠ 0 := fun hh => hs ((cls_zero_iff hc).1 hh)
  exact ⟨by omega, hs⟩
theorem whole6_cross {a b p m k : Nat} (ha : Whole6 a m) (hb : Whole6 b k) (hp : Whole6 p (m * k)) :
    upper (sig a * sig b) (xpo a + xpo b - xpo p) = sig p * lower 1 (xpo a + xpo b - xpo p) ∧ upper (sig p) (xpo p - xpo b - xpo a) = sig a * lower (sig b) (xpo p - xpo b - xpo a) := by
  obtain ⟨_, _, _, i, a4, a5, _⟩ := ha
  obtain ⟨_, _, _, j, b4, b5, _⟩ := hb
  obtain ⟨_, _, _, l, p4, p5, _⟩ := hp
  rw [a4, a5, b4, b5, p4, p5]
  unfold upper lower pw
  rw [show (-(i : Int) + -(j : Int) - -(l : Int)).toNat = l - (i + j) by omega, show (-(-(i : Int) + -(j : Int) - -(l : Int))).toNat = i + j - l by omega,
    show (-(l : Int) - -(j : Int) - -(i : Int)).toNat = i + j - l by omega, show (-(-(l : Int) - -(j : Int) - -(i : Int))).toNat = l - (i + j) by omega]
  have e : 2 ^ i * 2 ^ j * 2 ^ (l - (i + j)) = 2 ^ l * 2 ^ (i + j - l) := by
    rw [← Nat.pow_add, ← Nat.pow_add, ← Nat.pow_add]
    congr 1
    omega
  generalize 2 ^ (l - (i + j)) = x at *
  generalize 2 ^ (i + j - l) = y at *
  generalize 2 ^ i = u at *
  generalize 2 ^ j = v at *
  generalize 2 ^ l = z at *
  refine ⟨?_, ?_⟩
  · calc m * u * (k * v) * x = m * k * (u * v * x) := by simp only [Nat.mul_comm, Nat.mul_left_comm]
      _ = m * k * (z * y) := by rw [e]
      _ = m * k * z * (1 * y) := by simp only [Nat.one_mul, Nat.mul_assoc]
  · calc m * k * z * y = m * k * (z * y) := by rw [Nat.mul_assoc]
      _ = m * k * (u * v * x) := by rw [e]
      _ = m * u * (k * v * x) := by simp only [Nat.mul_comm, Nat.mul_left_comm]
theorem rdiv_back {a b m k : Nat} (ha : Whole6 a m) (hb : Whole6 b k) (hm : 0 < m) (hk : 0 < k) (hmk : m * k < 9007199254740992) :
    ∃ p, p < 18446744073709551616 ∧ rmul a b 0 = (p, 0) ∧ rdiv6 p b 0 = (a, 0) := by
  obtain ⟨p, hp⟩ := whole6_has (Nat.mul_pos hm hk) hmk
  obtain ⟨x1, x2⟩ := whole6_cross ha hb hp
  obtain ⟨ca, sa⟩ := whole6_cls ha hm
  obtain ⟨cb, sb⟩ := whole6_cls hb hk
  obtain ⟨cp, sp⟩ := whole6_cls hp (Nat.mul_pos hm hk)
  refine ⟨p, hp.1, ?_, ?_⟩
  · unfold rmul
    rw [ha.2.1, hb.2.1, if_neg (by omega), if_neg (by omega), if_neg (by omega), if_neg (by omega), show (false != false) = neg6 p from hp.2.1.symm]
    exact rnd_told hp.1 hp.2.2.1 sp (by decide) x1
  · unfold rdiv6
    rw [hp.2.1, hb.2.1, if_neg (by omega), if_neg (by omega), if_neg (by omega), if_neg (by omega), if_neg (by omega), show (false != false) = neg6 a from ha.2.1.symm]
    exact rnd_told ha.1 ha.2.2.1 sa (by omega) x2
end Go.Proofs.Ytdonecohnemomaa
