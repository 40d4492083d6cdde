/- math/bits.LeadingZeros64; math/bits.Div64, of a divisor whose highest bit is set. -/
import Derived.Test.YtdonecohnemomaaBitNum
import Derived.Outline
import Derived.Deep.CutBlock
import Derived.Deep.DeepCutAuto
import Derived.IntWalk
import Derived.BigQuiet
import Derived.Deep.QuietTactic
import Derived.Test.YtdonecohnemomaaState
namespace Go.Proofs.Ytdonecohnemomaa
open Go.RowKit Go.Shelf

theorem lz_calls (x : Nat) (hx : x < 18446744073709551616) (w : World) :
    Calls Try.prog 139 #[.int .u64 (x : Int)] w fun e w' => e = .returned (.int .i64 ((64 - nbits x : Nat) : Int)) ∧ w = w' := by
  have hb := bitLen_nbits hx
  have h64 := nbits_le (n := x) (k := 64) (by simpa using hx)
  have hl := len64_calls x hx w
  rw [hb] at hl
  clear hb
  generalize nbits x = b at *
  have he : (64 : Int) - (b : Int) = ((64 - b : Nat) : Int) := by omega
  go_enter Try.func139, Try.ntmps139
  go_wp2_with fail
  refine hl.mono ?_
  rintro e w' ⟨rfl, rfl⟩
  clear hl
  go_wp2
  go_ret
  exact ⟨rfl, rfl⟩

/-! ### one digit of 32 bits: two words by one, whose highest bit is set -/
structure Kn (a b U u1 : Nat) : Prop where
  a1 : 2147483648 ≤ a
  a2 : a < 4294967296
  b2 : b < 4294967296
  u2 : u1 < 4294967296
  U2 : U < a * 4294967296 + b
section
variable {a b U u1 Q R : Nat}
theorem Kn.le_of (h : Kn a b U u1) (hr : Q * a + R = U) (hc : Q * b ≤ 4294967296 * R + u1) : Q ≤ (U * 4294967296 + u1) / (a * 4294967296 + b) := by
  rw [Nat.le_div_iff_mul_le (by have := h.a1; omega), Nat.mul_add, ← Nat.mul_assoc, ← hr, Nat.add_mul]
  omega
theorem Kn.ge_of (h : Kn a b U u1) (hr : Q * a + R = U) (hc : 4294967296 * R + u1 < Q * b) : (U * 4294967296 + u1) / (a * 4294967296 + b) < Q := by
  rw [Nat.div_lt_iff_lt_mul (by have := h.a1; omega), Nat.mul_add, ← Nat.mul_assoc, ← hr, Nat.add_mul]
  omega
theorem Kn.lt (h : Kn a b U u1) : (U * 4294967296 + u1) / (a * 4294967296 + b) < 4294967296 := by
  have h1 := h.U2
  have h2 := h.u2
  rw [Nat.div_lt_iff_lt_mul (by have := h.a1; omega)]
  omega
theorem Kn.init (h : Kn a b U u1) : (U * 4294967296 + u1) / (a * 4294967296 + b) ≤ U / a := by
  have h1 := h.a1
  rw [Nat.le_div_iff_mul_le (by omega)]
  have h3 := Nat.div_mul_le_self (U * 4294967296 + u1) (a * 4294967296 + b)
  generalize (U * 4294967296 + u1) / (a * 4294967296 + b) = q at *
  rw [Nat.mul_add, ← Nat.mul_assoc] at h3
  have := h.u2
  generalize q * a = X at *
  omega
theorem Kn.small (h : Kn a b U u1) (hr : Q * a + R = U) (hR : 4294967296 ≤ R) : Q < 4294967296 := by
  rcases Nat.lt_or_ge Q 4294967296 with h1 | h1
  · exact h1
  · have := Nat.mul_le_mul_right a h1
    have := h.U2
    have := h.b2
    omega
theorem Kn.stop (h : Kn a b U u1) (hr : Q * a + R = U) (hq : (U * 4294967296 + u1) / (a * 4294967296 + b) ≤ Q) (hc : Q * b ≤ 4294967296 * R + u1) : Q = (U * 4294967296 + u1) / (a * 4294967296 + b) := Nat.le_antisymm (h.le_of hr hc) hq
theorem Kn.leave (h : Kn a b U u1) (hr : Q * a + R = U) (hq : (U * 4294967296 + u1) / (a * 4294967296 + b) ≤ Q) (hR : 4294967296 ≤ R) : Q = (U * 4294967296 + u1) / (a * 4294967296 + b) := by
  refine h.stop hr hq ?_
  have h1 := h.small hr hR
  have h2 := h.b2
  have : Q * b ≤ 4294967296 * 4294967296 := Nat.mul_le_mul (by omega) (by omega)
  omega
theorem Kn.step (h : Kn a b U u1) (hr : Q * a + R = U) (hq : (U * 4294967296 + u1) / (a * 4294967296 + b) ≤ Q) (hc : 4294967296 ≤ Q ∨ 4294967296 * R + u1 < Q * b) : 1 ≤ Q ∧ (U * 4294967296 + u1) / (a * 4294967296 + b) ≤ Q - 1 ∧ (Q - 1) * a + (R + a) = U := by
  have hlt : (U * 4294967296 + u1) / (a * 4294967296 + b) < Q := by
    rcases hc with hc | hc
    · exact Nat.lt_of_lt_of_le h.lt hc
    · exact h.ge_of hr hc
  generalize (U * 4294967296 + u1) / (a * 4294967296 + b) = q at *
  obtain ⟨P, rfl⟩ : ∃ P, Q = P + 1 := ⟨Q - 1, by omega⟩
  rw [Nat.add_mul] at hr
  simp only [Nat.add_sub_cancel]
  omega
end
/-- qt is the digit; what is known of a guess -/
structure KnAt (a b U u1 qt : Nat) : Prop where
  stop : ∀ {Q R : Nat}, Q * a + R = U → qt ≤ Q → Q * b ≤ 4294967296 * R + u1 → Q = qt
  leave : ∀ {Q R : Nat}, Q * a + R = U → qt ≤ Q → 4294967296 ≤ R → Q = qt
  step : ∀ {Q R : Nat}, Q * a + R = U → qt ≤ Q → (4294967296 ≤ Q ∨ 4294967296 * R + u1 < Q * b) → 1 ≤ Q ∧ qt ≤ Q - 1 ∧ (Q - 1) * a + (R + a) = U
theorem Kn.at {a b U u1 qt : Nat} (h : Kn a b U u1) (e : qt = (U * 4294967296 + u1) / (a * 4294967296 + b)) : KnAt a b U u1 qt := by
  subst e
  exact ⟨fun h1 h2 h3 => h.stop h1 h2 h3, fun h1 h2 h3 => h.leave h1 h2 h3, fun h1 h2 h3 => h.step h1 h2 h3⟩
/-- both digits -/
theorem kn_both (V u0 y : Nat) : (V * 4294967296 + u0) / y = V / y * 4294967296 + (V % y * 4294967296 + u0) / y := by
  rcases Nat.eq_zero_or_pos y with rfl | hy
  · simp
  · have h := Nat.div_add_mod V y
    have e : V * 4294967296 + u0 = (V % y * 4294967296 + u0) + y * (V / y * 4294967296) := by
      generalize V / y = q at *
      generalize V % y = r at *
      rw [← h, Nat.add_mul, Nat.mul_assoc]
      omega
    rw [e, Nat.add_mul_div_left _ _ hy]
    omega

theorem kn_rest {S c d T rr lo : Nat} (h3 : lo = c * 4294967296 + d) (h4 : T + rr = S + c) : S * 4294967296 + lo = rr * 4294967296 + d + T * 4294967296 := by omega
theorem kn_sub {T R0 rr d A2 M3 : Nat} (h : T + R0 = rr * 4294967296 + d) (hR : R0 < 18446744073709551616) (hA : A2 = rr * 4294967296 % 18446744073709551616) (hM : M3 = T % 18446744073709551616) :
    IntKind.u64.wrap (IntKind.u64.wrap ((A2 : Int) + (d : Int)) - (M3 : Int)) = (R0 : Int) := by
  rw [IntKind.wrap_u64, IntKind.wrap_u64]
  omega
set_option maxRecDepth 100000 in
set_option maxHeartbeats 4000000 in
theorem div64_rest (hi lo y : Nat) (hy1 : 9223372036854775808 ≤ y) (hy2 : y < 18446744073709551616) (hhi : hi < y) (h0 : 0 < hi) (hlo : lo < 18446744073709551616) (w : World) :
    Calls Try.prog 140 #[.int .u64 (hi : Int), .int .u64 (lo : Int), .int .u64 (y : Int)] w fun e w' => e = .returned (.tuple #[.int .u64 (((hi * 18446744073709551616 + lo) / y : Nat) : Int), .int .u64 (((hi * 18446744073709551616 + lo) % y : Nat) : Int)]) ∧ w = w' := by
  have hlz : Calls Try.prog 139 #[.int .u64 (y : Int)] w fun e w' => e = .returned (.int .i64 0) ∧ w = w' := by
    have := lz_calls y hy2 w
    rwa [nbits_eq (n := y) (k := 63) (by simpa using hy1) (by simpa using hy2)] at this
  have hy0 : ((y : Int) == 0) = false := beq_eq_false_iff_ne.2 (by omega)
  have hh0 : ((hi : Int) == 0) = false := beq_eq_false_iff_ne.2 (by omega)
  have hle : ¬ y ≤ hi := by omega
  obtain ⟨a, ha⟩ : ∃ a, a = y / 4294967296 := ⟨_, rfl⟩
  obtain ⟨b, hb⟩ : ∃ b, b = y % 4294967296 := ⟨_, rfl⟩
  obtain ⟨c, hc⟩ : ∃ c, c = lo / 4294967296 := ⟨_, rfl⟩
  obtain ⟨d, hd⟩ : ∃ d, d = lo % 4294967296 := ⟨_, rfl⟩
  have hyab : Hid (y = a * 4294967296 + b) := Lib.hid (by omega)
  have hlcd : Hid (lo = c * 4294967296 + d) := Lib.hid (by omega)
  have hdb : d < 4294967296 := by omega
  have kn1 : Kn a b hi c := ⟨by omega, by omega, by omega, by omega, by omega⟩
  have ea : (y : Int) / 4294967296 = (a : Int) := by omega
  have eb : bits .and .u64 (y : Int) 4294967295 = (b : Int) := by
    have h := bits_and_u64_nat y 4294967295 hy2 (by omega)
    rw [show (4294967295 : Nat) = 2 ^ 32 - 1 from rfl, Nat.and_two_pow_sub_one_eq_mod] at h
    rw [hb]; exact h
  have ec : (lo : Int) / 4294967296 = (c : Int) := by omega
  have ed : bits .and .u64 (lo : Int) 4294967295 = (d : Int) := by
    have h := bits_and_u64_nat lo 4294967295 hlo (by omega)
    rw [show (4294967295 : Nat) = 2 ^ 32 - 1 from rfl, Nat.and_two_pow_sub_one_eq_mod] at h
    rw [hd]; exact h
  have e64 : (lo : Int) / 18446744073709551616 = 0 := by omega
  have eor : bits .or .u64 (hi : Int) 0 = (hi : Int) := by
    have h := bits_or_u64_nat hi 0 (by omega) (by omega)
    rw [Nat.or_zero] at h
    exact h
  have ha1 := kn1.a1
  have ha2 := kn1.a2
  have hb2 := kn1.b2
  have hc2 := kn1.u2
  have hdiv := Nat.div_add_mod hi a
  have hml := Nat.mod_lt hi (show 0 < a by omega)
  have hdl : hi / a < 17179869184 := by rw [Nat.div_lt_iff_lt_mul (by omega)]; omega
  obtain ⟨P, hP⟩ : ∃ P, P = hi / a * a := ⟨_, rfl⟩
  rw [Nat.mul_comm] at hdiv
  have hPr : P + hi % a = hi := by rw [hP]; exact hdiv
  have eq1 : IntKind.u64.wrap ((hi : Int) / (a : Int)) = ((hi / a : Nat) : Int) := by
    rw [← Int.natCast_ediv, IntKind.wrap_u64]
    generalize hi / a = t at *
    omega
  have eq2 : IntKind.u64.wrap (((hi / a : Nat) : Int) * (a : Int)) = (P : Int) := by
    rw [← Int.natCast_mul, ← hP, IntKind.wrap_u64]; omega
  have eq3 : IntKind.u64.wrap ((hi : Int) - (P : Int)) = ((hi % a : Nat) : Int) := by
    rw [IntKind.wrap_u64]; omega
  have hinit := kn1.init
  obtain ⟨qt, hqt⟩ : ∃ qt, qt = (hi * 4294967296 + c) / (a * 4294967296 + b) := ⟨_, rfl⟩
  rw [← hqt] at hinit
  have kn2 := kn1.at hqt
  have hqtl : qt < 4294967296 := by rw [hqt]; exact kn1.lt
  have HQT := Lib.hid hqt
  clear hqt
  generalize hi / a = q0 at *
  generalize hi % a = r0 at *
  have HD := Lib.hid hdiv
  have HPR := Lib.hid hPr
  clear hdiv hPr hP ha hb hc hd
  go_enter Try.func140, Try.ntmps140
  go_wp2_with fail
  refine hlz.mono ?_
  rintro e w' ⟨rfl, rfl⟩
  go_upto_block 0 with (fail)
  clear ea eb ec ed e64 eor eq1 eq2 eq3 hlz hy0 hh0
  go_cut [15, 16] from 67 to 85 (fun q r wx => q = .int .u64 (qt : Int) ∧ (∃ R : Nat, r = .int .u64 (R : Int)) ∧ w = wx)
  case first =>
    go_wp2_with fail
    go_loop [15, 16] (fun q r => ∃ Q R : Nat, q = .int .u64 (Q : Int) ∧ r = .int .u64 (R : Int) ∧ Hid (Q * a + R = hi) ∧ R < 4294967296 ∧ qt ≤ Q ∧ Q ≤ 17179869184) (fun q _ => (intOf q).toNat)
    case atStart => exact ⟨q0, r0, rfl, rfl, HD, by omega, hinit, by omega⟩
    case round =>
      obtain ⟨Q, R, rfl, rfl, hQR, hR, hq, hQ⟩ := hrel
      by_cases h1 : 4294967296 ≤ Q
      · skip
        obtain ⟨g1, g2, g3⟩ := kn2.step hQR.out hq (.inl h1)
        obtain ⟨Q', hQ'⟩ : ∃ Q', Q' = Q - 1 := ⟨_, rfl⟩
        rw [← hQ'] at g2 g3
        have HG := Lib.hid g3
        have hm1 : Q' < Q := by omega
        have hm2 : Q' ≤ 17179869184 := by omega
        have e1 : (Q : Int) - 1 = (Q' : Int) := by omega
        clear g3 hQ'
        by_cases h3 : 4294967296 ≤ R + a
        · have hfin : Hid (Q' = qt) := Lib.hid (kn2.leave HG.out g2 h3)
          have hd3 : decide ((4294967296 : Int) ≤ (R : Int) + (a : Int)) = true := decide_eq_true (by omega)
          have hd1 : decide ((4294967296 : Int) ≤ (Q : Int)) = true := decide_eq_true (by omega); clear h1
          clear h3
          go_wp2
          go_meet
          exact ⟨congrArg (fun t : Nat => Value.int .u64 (t : Int)) hfin.out, ⟨R + a, by go_num⟩, rfl⟩
        · have hd3 : decide ((4294967296 : Int) ≤ (R : Int) + (a : Int)) = false := decide_eq_false (by omega)
          have h3' : R + a < 4294967296 := by omega
          have hd1 : decide ((4294967296 : Int) ≤ (Q : Int)) = true := decide_eq_true (by omega); clear h1
          clear h3
          go_wp2
          go_round
          case rel => exact ⟨Q', R + a, rfl, by go_num, HG, h3', g2, hm2⟩
          case measure => simp [intOf]; exact hm1
      · have hMl : Q * b < 18446744073709551616 := Nat.lt_of_le_of_lt (Nat.mul_le_mul (show Q ≤ 4294967295 by omega) (show b ≤ 4294967295 by omega)) (by decide)
        have ew : IntKind.u64.wrap ((Q : Int) * (b : Int)) = ((Q * b : Nat) : Int) := by rw [← Int.natCast_mul, IntKind.wrap_u64]; omega
        clear hMl
        by_cases h2 : 4294967296 * R + c < Q * b
        · have hst := kn2.step hQR.out hq (.inr h2)
          generalize hMe : Q * b = M at *
          clear hMe
          obtain ⟨g1, g2, g3⟩ := hst
          obtain ⟨Q', hQ'⟩ : ∃ Q', Q' = Q - 1 := ⟨_, rfl⟩
          rw [← hQ'] at g2 g3
          have HG := Lib.hid g3
          have hm1 : Q' < Q := by omega
          have hm2 : Q' ≤ 17179869184 := by omega
          have e1 : (Q : Int) - 1 = (Q' : Int) := by omega
          clear g3 hQ'
          by_cases h3 : 4294967296 ≤ R + a
          · have hfin : Hid (Q' = qt) := Lib.hid (kn2.leave HG.out g2 h3)
            have hd3 : decide ((4294967296 : Int) ≤ (R : Int) + (a : Int)) = true := decide_eq_true (by omega)
            (have hd1 : decide ((4294967296 : Int) ≤ (Q : Int)) = false := decide_eq_false (by omega)); (have hd2 : decide ((4294967296 : Int) * (R : Int) + (c : Int) < (M : Int)) = true := decide_eq_true (by omega)); clear h1 h2
            clear h3
            go_wp2
            go_meet
            exact ⟨congrArg (fun t : Nat => Value.int .u64 (t : Int)) hfin.out, ⟨R + a, by go_num⟩, rfl⟩
          · have hd3 : decide ((4294967296 : Int) ≤ (R : Int) + (a : Int)) = false := decide_eq_false (by omega)
            have h3' : R + a < 4294967296 := by omega
            (have hd1 : decide ((4294967296 : Int) ≤ (Q : Int)) = false := decide_eq_false (by omega)); (have hd2 : decide ((4294967296 : Int) * (R : Int) + (c : Int) < (M : Int)) = true := decide_eq_true (by omega)); clear h1 h2
            clear h3
            go_wp2
            go_round
            case rel => exact ⟨Q', R + a, rfl, by go_num, HG, h3', g2, hm2⟩
            case measure => simp [intOf]; exact hm1
        · have hfin : Hid (Q = qt) := Lib.hid (kn2.stop hQR.out hq (by omega))
          generalize hMe : Q * b = M at *
          clear hMe
          (have hd1 : decide ((4294967296 : Int) ≤ (Q : Int)) = false := decide_eq_false (by omega)); (have hd2 : decide ((4294967296 : Int) * (R : Int) + (c : Int) < (M : Int)) = false := decide_eq_false (by omega)); clear h1 h2
          go_wp2
          go_meet
          exact ⟨congrArg (fun t : Nat => Value.int .u64 (t : Int)) hfin.out, ⟨R, rfl⟩, rfl⟩
  case rest =>
    obtain ⟨rfl, ⟨R, rfl⟩, rfl⟩ := hcut
    obtain ⟨rr, hrr⟩ : ∃ rr, rr = (hi * 4294967296 + c) % (a * 4294967296 + b) := ⟨_, rfl⟩
    have hyp : 0 < a * 4294967296 + b := by omega
    have hrl : rr < a * 4294967296 + b := by rw [hrr]; exact Nat.mod_lt _ hyp
    have hdm : qt * y + rr = hi * 4294967296 + c := by rw [HQT.out, hrr, hyab.out, Nat.mul_comm]; exact Nat.div_add_mod _ _
    obtain ⟨A1, hA1⟩ : ∃ A1, A1 = hi * 4294967296 % 18446744073709551616 := ⟨_, rfl⟩
    obtain ⟨M2, hM2⟩ : ∃ M2, M2 = qt * y % 18446744073709551616 := ⟨_, rfl⟩
    have hA1l : A1 ≤ 18446744069414584320 := by omega
    have f1 : IntKind.u64.wrap ((hi : Int) * 4294967296) = (A1 : Int) := by rw [IntKind.wrap_u64]; omega
    have f2 : IntKind.u64.wrap ((qt : Int) * (y : Int)) = (M2 : Int) := by rw [← Int.natCast_mul, IntKind.wrap_u64]; omega
    have f3 : IntKind.u64.wrap ((A1 : Int) + (c : Int) - (M2 : Int)) = (rr : Int) := by
      rw [IntKind.wrap_u64]
      generalize qt * y = T at *
      omega
    have kn3 : Kn a b rr d := ⟨ha1, ha2, hb2, hdb, hrl⟩
    have hdiv := Nat.div_add_mod rr a
    have hml2 := Nat.mod_lt rr (show 0 < a by omega)
    have hdl2 : rr / a < 17179869184 := by rw [Nat.div_lt_iff_lt_mul (by omega)]; omega
    obtain ⟨P2, hP⟩ : ∃ P, P = rr / a * a := ⟨_, rfl⟩
    rw [Nat.mul_comm] at hdiv
    have hPr : P2 + rr % a = rr := by rw [hP]; exact hdiv
    have eq1 : IntKind.u64.wrap ((rr : Int) / (a : Int)) = ((rr / a : Nat) : Int) := by
      rw [← Int.natCast_ediv, IntKind.wrap_u64]
      generalize rr / a = t at *
      omega
    have eq2 : IntKind.u64.wrap (((rr / a : Nat) : Int) * (a : Int)) = (P2 : Int) := by
      rw [← Int.natCast_mul, ← hP, IntKind.wrap_u64]; omega
    have eq3 : IntKind.u64.wrap ((rr : Int) - (P2 : Int)) = ((rr % a : Nat) : Int) := by
      rw [IntKind.wrap_u64]; omega
    have hinit2 := kn3.init
    obtain ⟨qv, hqv⟩ : ∃ qv, qv = (rr * 4294967296 + d) / (a * 4294967296 + b) := ⟨_, rfl⟩
    rw [← hqv] at hinit2
    have kn4 := kn3.at hqv
    have hqvl : qv < 4294967296 := by rw [hqv]; exact kn3.lt
    have hdv2 : qv * y + (hi * 18446744073709551616 + lo) % y = rr * 4294967296 + d := by
      have h1 := Nat.div_add_mod (rr * 4294967296 + d) (a * 4294967296 + b)
      have h2 : (hi * 18446744073709551616 + lo) % y = (rr * 4294967296 + d) % y := by
        have e : hi * 18446744073709551616 + lo = (rr * 4294967296 + d) + y * (qt * 4294967296) := by
          have e1 : hi * 18446744073709551616 = hi * 4294967296 * 4294967296 := by rw [Nat.mul_assoc]
          have e2 : y * (qt * 4294967296) = qt * y * 4294967296 := by rw [← Nat.mul_assoc, Nat.mul_comm y qt]
          rw [e1, e2]
          exact kn_rest hlcd.out hdm
        rw [e, Nat.add_mul_mod_self_left]
      rw [h2, hyab.out, hqv, Nat.mul_comm ((rr * 4294967296 + d) / (a * 4294967296 + b))]
      exact h1
    have hRl : (hi * 18446744073709551616 + lo) % y < 18446744073709551616 := Nat.lt_trans (Nat.mod_lt _ (by omega)) hy2
    obtain ⟨A2, hA2⟩ : ∃ A2, A2 = rr * 4294967296 % 18446744073709551616 := ⟨_, rfl⟩
    obtain ⟨M3, hM3⟩ : ∃ M3, M3 = qv * y % 18446744073709551616 := ⟨_, rfl⟩
    have F1 : Hid (IntKind.u64.wrap ((rr : Int) * 4294967296) = (A2 : Int)) := Lib.hid (by rw [IntKind.wrap_u64]; omega)
    have F2 : Hid (IntKind.u64.wrap ((qv : Int) * (y : Int)) = (M3 : Int)) := Lib.hid (by rw [← Int.natCast_mul, IntKind.wrap_u64]; omega)
    have F3 : Hid (IntKind.u64.wrap (IntKind.u64.wrap ((A2 : Int) + (d : Int)) - (M3 : Int)) = (((hi * 18446744073709551616 + lo) % y : Nat) : Int)) := Lib.hid (kn_sub hdv2 hRl hA2 hM3)
    have hA2l : A2 ≤ 18446744073709551615 := by omega
    have hM3l : M3 ≤ 18446744073709551615 := by omega
    clear hdv2 hA2 hM3
    have hall : Hid (qt * 4294967296 + qv = (hi * 18446744073709551616 + lo) / y) := Lib.hid (by
      have h := kn_both (hi * 4294967296 + c) d (a * 4294967296 + b)
      rw [← HQT.out, ← hrr, ← hqv, ← hyab.out] at h
      have e : hi * 18446744073709551616 + lo = (hi * 4294967296 + c) * 4294967296 + d := by rw [hlcd.out]; omega
      rw [e]
      exact h.symm)
    generalize rr / a = q2 at *
    generalize rr % a = r2 at *
    have HD2 := Lib.hid hdiv
    have hrb : rr < 18446744073709551616 := by have := hyab.out; omega
    clear hdiv hPr hP hqv hdm hA1 hM2 hrr hinit kn1 kn2 HD HPR hml hdl
    go_upto_block 2 with (fail)
    clear f1 f2 f3 eq1 eq2 eq3
    go_cut [18, 16] from 102 to 120 (fun q r wx => q = .int .u64 (qv : Int) ∧ (∃ R : Nat, r = .int .u64 (R : Int)) ∧ w = wx)
    case first =>
      go_wp2_with fail
      go_loop [18, 16] (fun q r => ∃ Q R : Nat, q = .int .u64 (Q : Int) ∧ r = .int .u64 (R : Int) ∧ Hid (Q * a + R = rr) ∧ R < 4294967296 ∧ qv ≤ Q ∧ Q ≤ 17179869184) (fun q _ => (intOf q).toNat)
      case atStart => exact ⟨q2, r2, rfl, rfl, HD2, by omega, hinit2, by omega⟩
      case round =>
        obtain ⟨Q, R, rfl, rfl, hQR, hR, hq, hQ⟩ := hrel
        by_cases h1 : 4294967296 ≤ Q
        · skip
          obtain ⟨g1, g2, g3⟩ := kn4.step hQR.out hq (.inl h1)
          obtain ⟨Q', hQ'⟩ : ∃ Q', Q' = Q - 1 := ⟨_, rfl⟩
          rw [← hQ'] at g2 g3
          have HG := Lib.hid g3
          have hm1 : Q' < Q := by omega
          have hm2 : Q' ≤ 17179869184 := by omega
          have e1 : (Q : Int) - 1 = (Q' : Int) := by omega
          clear g3 hQ'
          by_cases h3 : 4294967296 ≤ R + a
          · have hfin : Hid (Q' = qv) := Lib.hid (kn4.leave HG.out g2 h3)
            have hd3 : decide ((4294967296 : Int) ≤ (R : Int) + (a : Int)) = true := decide_eq_true (by omega)
            have hd1 : decide ((4294967296 : Int) ≤ (Q : Int)) = true := decide_eq_true (by omega); clear h1
            clear h3
            go_wp2
            go_meet
            exact ⟨congrArg (fun t : Nat => Value.int .u64 (t : Int)) hfin.out, ⟨R + a, by go_num⟩, rfl⟩
          · have hd3 : decide ((4294967296 : Int) ≤ (R : Int) + (a : Int)) = false := decide_eq_false (by omega)
            have h3' : R + a < 4294967296 := by omega
            have hd1 : decide ((4294967296 : Int) ≤ (Q : Int)) = true := decide_eq_true (by omega); clear h1
            clear h3
            go_wp2
            go_round
            case rel => exact ⟨Q', R + a, rfl, by go_num, HG, h3', g2, hm2⟩
            case measure => simp [intOf]; exact hm1
        · have hMl : Q * b < 18446744073709551616 := Nat.lt_of_le_of_lt (Nat.mul_le_mul (show Q ≤ 4294967295 by omega) (show b ≤ 4294967295 by omega)) (by decide)
          have ew : IntKind.u64.wrap ((Q : Int) * (b : Int)) = ((Q * b : Nat) : Int) := by rw [← Int.natCast_mul, IntKind.wrap_u64]; omega
          clear hMl
          by_cases h2 : 4294967296 * R + d < Q * b
          · have hst := kn4.step hQR.out hq (.inr h2)
            generalize hMe : Q * b = M at *
            clear hMe
            obtain ⟨g1, g2, g3⟩ := hst
            obtain ⟨Q', hQ'⟩ : ∃ Q', Q' = Q - 1 := ⟨_, rfl⟩
            rw [← hQ'] at g2 g3
            have HG := Lib.hid g3
            have hm1 : Q' < Q := by omega
            have hm2 : Q' ≤ 17179869184 := by omega
            have e1 : (Q : Int) - 1 = (Q' : Int) := by omega
            clear g3 hQ'
            by_cases h3 : 4294967296 ≤ R + a
            · have hfin : Hid (Q' = qv) := Lib.hid (kn4.leave HG.out g2 h3)
              have hd3 : decide ((4294967296 : Int) ≤ (R : Int) + (a : Int)) = true := decide_eq_true (by omega)
              (have hd1 : decide ((4294967296 : Int) ≤ (Q : Int)) = false := decide_eq_false (by omega)); (have hd2 : decide ((4294967296 : Int) * (R : Int) + (d : Int) < (M : Int)) = true := decide_eq_true (by omega)); clear h1 h2
              clear h3
              go_wp2
              go_meet
              exact ⟨congrArg (fun t : Nat => Value.int .u64 (t : Int)) hfin.out, ⟨R + a, by go_num⟩, rfl⟩
            · have hd3 : decide ((4294967296 : Int) ≤ (R : Int) + (a : Int)) = false := decide_eq_false (by omega)
              have h3' : R + a < 4294967296 := by omega
              (have hd1 : decide ((4294967296 : Int) ≤ (Q : Int)) = false := decide_eq_false (by omega)); (have hd2 : decide ((4294967296 : Int) * (R : Int) + (d : Int) < (M : Int)) = true := decide_eq_true (by omega)); clear h1 h2
              clear h3
              go_wp2
              go_round
              case rel => exact ⟨Q', R + a, rfl, by go_num, HG, h3', g2, hm2⟩
              case measure => simp [intOf]; exact hm1
          · have hfin : Hid (Q = qv) := Lib.hid (kn4.stop hQR.out hq (by omega))
            generalize hMe : Q * b = M at *
            clear hMe
            (have hd1 : decide ((4294967296 : Int) ≤ (Q : Int)) = false := decide_eq_false (by omega)); (have hd2 : decide ((4294967296 : Int) * (R : Int) + (d : Int) < (M : Int)) = false := decide_eq_false (by omega)); clear h1 h2
            go_wp2
            go_meet
            exact ⟨congrArg (fun t : Nat => Value.int .u64 (t : Int)) hfin.out, ⟨R, rfl⟩, rfl⟩
    case rest =>
      obtain ⟨rfl, ⟨R2, rfl⟩, rfl⟩ := hcut
      have hQf : Hid ((qt : Int) * 4294967296 + (qv : Int) = (((hi * 18446744073709551616 + lo) / y : Nat) : Int)) := Lib.hid (by rw [← hall.out]; omega)
      have g1 := F1.out
      have g2 := F2.out
      have g3 := F3.out
      go_wp2
      go_ret2
      exact ⟨congrArg (fun t => Ending.returned (.tuple #[.int .u64 t, .int .u64 _])) hQf.out, rfl⟩
theorem div64_calls (hi lo y : Nat) (hy1 : 9223372036854775808 ≤ y) (hy2 : y < 18446744073709551616) (hhi : hi < y) (h0 : 0 < hi) (hlo : lo < 18446744073709551616) (w : World) :
    Calls Try.prog 140 #[.int .u64 (hi : Int), .int .u64 (lo : Int), .int .u64 (y : Int)] w fun e w' => ∃ r : Int, e = .returned (.tuple #[.int .u64 (((hi * 18446744073709551616 + lo) / y : Nat) : Int), .int .u64 r]) ∧ w = w' :=
  (div64_rest hi lo y hy1 hy2 hhi h0 hlo w).mono fun _ _ ⟨h, k⟩ => ⟨_, h, k⟩
end Go.Proofs.Ytdonecohnemomaa

/- natdiv.guessDigit. -/
namespace Go.Proofs.Ytdonecohnemomaa
open Go.RowKit Go.Shelf

set_option maxRecDepth 100000 in
set_option maxHeartbeats 1000000 in
theorem div64_zero (lo y : Nat) (hy1 : 9223372036854775808 ≤ y) (hy2 : y < 18446744073709551616) (hlo : lo < 18446744073709551616) (w : World) :
    Calls Try.prog 140 #[.int .u64 0, .int .u64 (lo : Int), .int .u64 (y : Int)] w fun e w' => ∃ r : Int, e = .returned (.tuple #[.int .u64 ((lo / y : Nat) : Int), .int .u64 r]) ∧ ∃ n, w' = w.drewN n := by
  have hy0 : ((y : Int) == 0) = false := beq_eq_false_iff_ne.2 (by omega)
  have hle : ¬ y ≤ 0 := by omega
  have hne : ¬ (y : Int) = 0 := by omega
  have hd : lo / y ≤ lo := Nat.div_le_self _ _
  have e1 : IntKind.u64.wrap ((lo : Int) / (y : Int)) = ((lo / y : Nat) : Int) := by
    rw [← Int.natCast_ediv, IntKind.wrap_u64]
    generalize lo / y = t at *
    omega
  generalize lo / y = q at *
  go_enter Try.func140, Try.ntmps140
  go_wp2
  go_quiet (fail)
  go_wp2
  go_ret2
  exact ⟨_, rfl, _, rfl⟩
/-- the guess of a digit -/
def gd (high next top : Nat) : Nat := if top ≤ high then 18446744073709551615 else (high * 18446744073709551616 + next) / top

end Go.Proofs.Ytdonecohnemomaa

/- What natdiv.takeDigit reckons: plain numbers. -/
namespace Go.Proofs.Ytdonecohnemomaa
open Go.RowKit Go.Shelf

theorem lim_drop (s : List Nat) (off k : Nat) : lim (s.drop off) k = lim s (off + k) := by unfold lim; rw [List.getElem?_drop]
theorem part_drop (B : Nat) (s : List Nat) (off m : Nat) : part B s (off + m) = part B s off + B ^ off * part B (s.drop off) m := by
  induction m with
  | zero => simp [part]
  | succ m ih => rw [← Nat.add_assoc, part, ih, part, lim_drop, Nat.mul_add, Nat.pow_add, Nat.mul_assoc]; omega
theorem low_drop {B : Nat} {s : List Nat} (h : Low B s) (off : Nat) : Low B (s.drop off) := fun x hx => h x (List.mem_of_mem_drop hx)
theorem tk_below {Q s : List Nat} {x off : Nat} (k : Nat) {i : Nat} (h : i < off) : lim (tkS Q x off s k).1 i = lim s i := by
  induction k with
  | zero => rfl
  | succ k ih => rw [tkS]; simp only []; rw [lim_set, if_neg (by omega)]; exact ih
theorem pu_below {Q s : List Nat} {off : Nat} (k : Nat) {i : Nat} (h : i < off) : lim (puS Q off s k).1 i = lim s i := by
  induction k with
  | zero => rfl
  | succ k ih => rw [puS]; simp only []; rw [lim_set, if_neg (by omega)]; exact ih
/-- a stretch's number -/
abbrev pv (s : List Nat) (off m : Nat) : Nat := part 18446744073709551616 (s.drop off) m
theorem tk_pv {Q s : List Nat} {x off : Nat} (hQ : Low 18446744073709551616 Q) (hs : Low 18446744073709551616 s) (hx : x < 18446744073709551616) (k : Nat) (hk : off + k ≤ s.length) :
    pv (tkS Q x off s k).1 off k + x * part 18446744073709551616 Q k = pv s off k + 18446744073709551616 ^ k * (tkS Q x off s k).2 := by
  have h := tk_range hQ hs hx k hk
  rw [part_drop, part_drop 18446744073709551616 s, part_congr (ys := s) (fun i hi => tk_below k hi), Nat.pow_add, Nat.mul_assoc] at h
  have h2 : 18446744073709551616 ^ off * (pv (tkS Q x off s k).1 off k + x * part 18446744073709551616 Q k) = 18446744073709551616 ^ off * (pv s off k + 18446744073709551616 ^ k * (tkS Q x off s k).2) := by
    rw [Nat.mul_add, Nat.mul_add]
    simp only [pv]
    omega
  exact Nat.eq_of_mul_eq_mul_left (Nat.pow_pos (by decide)) h2
theorem pu_pv {Q s : List Nat} {off : Nat} (hQ : Low 18446744073709551616 Q) (hs : Low 18446744073709551616 s) (k : Nat) (hk : off + k ≤ s.length) :
    pv (puS Q off s k).1 off k + 18446744073709551616 ^ k * (puS Q off s k).2 = pv s off k + part 18446744073709551616 Q k := by
  have h := pu_range hQ hs k hk
  rw [part_drop, part_drop 18446744073709551616 s, part_congr (ys := s) (fun i hi => pu_below k hi), Nat.pow_add, Nat.mul_assoc] at h
  have h2 : 18446744073709551616 ^ off * (pv (puS Q off s k).1 off k + 18446744073709551616 ^ k * (puS Q off s k).2) = 18446744073709551616 ^ off * (pv s off k + part 18446744073709551616 Q k) := by
    rw [Nat.mul_add, Nat.mul_add]
    simp only [pv]
    omega
  exact Nat.eq_of_mul_eq_mul_left (Nat.pow_pos (by decide)) h2
theorem pv_set {s : List Nat} {off m v : Nat} (h : off + m < s.length) : pv (s.set (off + m) v) off (m + 1) = pv s off m + 18446744073709551616 ^ m * v := by
  show part _ _ _ = _
  rw [part, lim_drop, lim_set, if_pos ⟨rfl, h⟩]
  congr 1
  exact part_congr fun i hi => by rw [lim_drop, lim_drop, lim_set, if_neg (by omega)]
theorem pv_succ (s : List Nat) (off m : Nat) : pv s off (m + 1) = pv s off m + 18446744073709551616 ^ m * lim s (off + m) := by
  show part _ _ _ = _
  rw [part, lim_drop]
/-- while the digit X is tried, and bo is still borrowed -/
structure Td (s Q : List Nat) (off X bo : Nat) (t : List Nat) : Prop where
  len : t.length = s.length
  low : Low 18446744073709551616 t
  out : ∀ i, (i < off ∨ off + Q.length < i) → lim t i = lim s i
  bo1 : bo ≤ 1
  Xl : X < 18446744073709551616
  ge : pv s off (Q.length + 1) / val 18446744073709551616 Q ≤ X
  eqn : pv t off (Q.length + 1) + X * val 18446744073709551616 Q = pv s off (Q.length + 1) + 18446744073709551616 ^ (Q.length + 1) * bo
section
variable {s Q : List Nat} {off x : Nat} (hQ : Low 18446744073709551616 Q)
include hQ
theorem td_take (hs : Low 18446744073709551616 s) (hx : x < 18446744073709551616) (hoff : off + Q.length < s.length) (hge : pv s off (Q.length + 1) / val 18446744073709551616 Q ≤ x) :
    Td s Q off x (borrow64 (lim s (off + Q.length)) (tkS Q x off s Q.length).2 0) ((tkS Q x off s Q.length).1.set (off + Q.length) (sub64 (lim s (off + Q.length)) (tkS Q x off s Q.length).2 0)) := by
  have h := tk_pv (off := off) hQ hs hx Q.length (by omega)
  obtain ⟨f1, f2, f3, f4⟩ := tk_fine off hQ hs hx Q.length
  have hb := fun i hi => tk_below (Q := Q) (s := s) (x := x) (off := off) Q.length (i := i) hi
  have hh := lim_lt hs (by decide) (off + Q.length)
  rw [part_all] at h
  generalize tkS Q x off s Q.length = r at *
  refine ⟨by simp [f1], low_set f3 (Nat.mod_lt _ (by decide)), fun i hi => ?_, by unfold borrow64; split <;> omega, hx, hge, ?_⟩
  · rw [lim_set, if_neg (by omega)]
    rcases hi with hi | hi
    · exact hb i hi
    · exact f4 i (by omega)
  · rw [pv_set (s := r.1) (off := off) (m := Q.length) (by omega), pv_succ]
    generalize lim s (off + Q.length) = o at *
    have hd : sub64 o r.2 0 + r.2 = o + 18446744073709551616 * borrow64 o r.2 0 := by
      unfold sub64 borrow64
      split <;> omega
    have hm := congrArg (18446744073709551616 ^ Q.length * ·) hd
    simp only [Nat.mul_add] at hm
    have e : 18446744073709551616 ^ (Q.length + 1) * borrow64 o r.2 0 = 18446744073709551616 ^ Q.length * (18446744073709551616 * borrow64 o r.2 0) := by rw [Nat.pow_succ, Nat.mul_assoc]
    rw [e]
    omega
theorem td_put {t : List Nat} {X : Nat} (h : Td s Q off X 1 t) (hoff : off + Q.length < s.length) :
    1 ≤ X ∧ carry64 (lim t (off + Q.length)) (puS Q off t Q.length).2 0 ≤ 1 ∧ Td s Q off (X - 1) (1 - carry64 (lim t (off + Q.length)) (puS Q off t Q.length).2 0) ((puS Q off t Q.length).1.set (off + Q.length) (add64 (lim t (off + Q.length)) (puS Q off t Q.length).2 0)) := by
  obtain ⟨g1, g2, g3, g4, g5, g6, g7⟩ := h
  have h := pu_pv (off := off) hQ g2 Q.length (by omega)
  obtain ⟨f1, f2, f3, f4⟩ := pu_fine off hQ g2 Q.length
  have hb := fun i hi => pu_below (Q := Q) (s := t) (off := off) Q.length (i := i) hi
  have ho := lim_lt g2 (by decide) (off + Q.length)
  have hlt := part_lt (low_drop g2 off) (by decide) (Q.length + 1)
  have hgt : pv s off (Q.length + 1) < X * val 18446744073709551616 Q := by
    have : pv t off (Q.length + 1) < 18446744073709551616 ^ (Q.length + 1) := hlt
    omega
  have hdv : pv s off (Q.length + 1) / val 18446744073709551616 Q < X := by
    rcases Nat.eq_zero_or_pos (val 18446744073709551616 Q) with h0 | h0
    · rw [h0] at hgt; simp at hgt
    · exact (Nat.div_lt_iff_lt_mul h0).2 hgt
  rw [part_all] at h
  generalize puS Q off t Q.length = r at *
  have hc : carry64 (lim t (off + Q.length)) r.2 0 ≤ 1 := by unfold carry64; omega
  have hX1 : 1 ≤ X := Nat.lt_of_le_of_lt (Nat.zero_le _) hdv
  have hX2 := Nat.le_sub_one_of_lt hdv
  clear g6 hdv
  refine ⟨hX1, hc, by simp [f1, g1], low_set f3 (Nat.mod_lt _ (by decide)), fun i hi => ?_, by omega, by omega, hX2, ?_⟩
  · rw [lim_set, if_neg (by omega), ← g3 i hi]
    rcases hi with hi | hi
    · exact hb i hi
    · exact f4 i (by omega)
  · rw [pv_set (s := r.1) (off := off) (m := Q.length) (by omega)]
    rw [pv_succ] at g7
    generalize lim t (off + Q.length) = o at *
    have hd : add64 o r.2 0 + 18446744073709551616 * carry64 o r.2 0 = o + r.2 := by unfold add64 carry64; omega
    have hm := congrArg (18446744073709551616 ^ Q.length * ·) hd
    simp only [Nat.mul_add] at hm
    generalize carry64 o r.2 0 = c at *
    clear hX2
    obtain ⟨Y, rfl⟩ : ∃ Y, X = Y + 1 := ⟨X - 1, by omega⟩
    rw [Nat.add_sub_cancel]
    rw [Nat.add_mul] at g7
    have e : 18446744073709551616 ^ (Q.length + 1) = 18446744073709551616 ^ Q.length * 18446744073709551616 := Nat.pow_succ _ _
    rw [e, Nat.mul_assoc] at g7
    rw [e, Nat.mul_assoc]
    have hc2 : c = 0 ∨ c = 1 := by omega
    rcases hc2 with rfl | rfl
    · simp only [Nat.sub_zero, Nat.mul_one, Nat.mul_zero, Nat.add_zero, Nat.one_mul] at *
      omega
    · simp only [Nat.sub_self, Nat.mul_one, Nat.mul_zero, Nat.add_zero, Nat.one_mul] at *
      omega
end
theorem td_done {s Q t : List Nat} {off X : Nat} (h : Td s Q off X 0 t) (h0 : 0 < val 18446744073709551616 Q) : X = pv s off (Q.length + 1) / val 18446744073709551616 Q ∧ pv t off (Q.length + 1) = pv s off (Q.length + 1) % val 18446744073709551616 Q := by
  obtain ⟨_, _, _, _, _, g6, g7⟩ := h
  rw [Nat.mul_zero, Nat.add_zero] at g7
  have hle : X ≤ pv s off (Q.length + 1) / val 18446744073709551616 Q := by
    rw [Nat.le_div_iff_mul_le h0]
    omega
  have hX := Nat.le_antisymm hle g6
  refine ⟨hX, ?_⟩
  have hd := Nat.div_add_mod (pv s off (Q.length + 1)) (val 18446744073709551616 Q)
  rw [← hX, Nat.mul_comm] at hd
  omega
/-- the guess is not less than the digit -/
theorem gd_ge {s Q : List Nat} {off : Nat} (_hQ : Low 18446744073709551616 Q) (hs : Low 18446744073709551616 s) (hQ0 : 0 < Q.length) (ht : 0 < lim Q (Q.length - 1)) (hV : pv s off (Q.length + 1) < val 18446744073709551616 Q * 18446744073709551616) :
    pv s off (Q.length + 1) / val 18446744073709551616 Q ≤ gd (lim s (off + Q.length)) (lim s (off + (Q.length - 1))) (lim Q (Q.length - 1)) ∧ gd (lim s (off + Q.length)) (lim s (off + (Q.length - 1))) (lim Q (Q.length - 1)) < 18446744073709551616 := by
  have hh := lim_lt hs (by decide) (off + Q.length)
  have hn := lim_lt hs (by decide) (off + (Q.length - 1))
  obtain ⟨m, hm⟩ : ∃ m, Q.length = m + 1 := ⟨Q.length - 1, by omega⟩
  have hQv : val 18446744073709551616 Q = part 18446744073709551616 Q m + 18446744073709551616 ^ m * lim Q m := by rw [← part_all, hm, part]
  have hVv : pv s off (Q.length + 1) = pv s off m + 18446744073709551616 ^ m * (lim s (off + m) + 18446744073709551616 * lim s (off + (m + 1))) := by
    rw [hm, pv_succ, pv_succ, Nat.mul_add, Nat.pow_succ, Nat.mul_assoc]
    omega
  have hlt : pv s off m < 18446744073709551616 ^ m := part_lt (low_drop hs off) (by decide) m
  have hp : 0 < 18446744073709551616 ^ m := Nat.pow_pos (by decide)
  have em : Q.length - 1 = m := by omega
  rw [em] at ht hn ⊢
  rw [hm] at hV hVv hh ⊢
  clear hm em
  generalize lim s (off + (m + 1)) = h at *
  generalize lim s (off + m) = n at *
  generalize lim Q m = t at *
  have hQ1 : 18446744073709551616 ^ m * t ≤ val 18446744073709551616 Q := by omega
  have hQp : 0 < val 18446744073709551616 Q := Nat.lt_of_lt_of_le (Nat.mul_pos hp ht) hQ1
  unfold gd
  split
  · exact ⟨by
      have := (Nat.div_lt_iff_lt_mul hQp).2 (show pv s off (m + 1 + 1) < 18446744073709551616 * val 18446744073709551616 Q by rw [Nat.mul_comm]; exact hV)
      omega, by decide⟩
  · rename_i hht
    refine ⟨?_, ?_⟩
    · rw [Nat.le_div_iff_mul_le ht]
      have h1 := Nat.div_mul_le_self (pv s off (m + 1 + 1)) (val 18446744073709551616 Q)
      generalize pv s off (m + 1 + 1) / val 18446744073709551616 Q = q at *
      have h2 : q * (18446744073709551616 ^ m * t) ≤ q * val 18446744073709551616 Q := Nat.mul_le_mul_left q hQ1
      have h3 : q * (18446744073709551616 ^ m * t) = 18446744073709551616 ^ m * (q * t) := Nat.mul_left_comm _ _ _
      have h4 : 18446744073709551616 ^ m * (q * t) < 18446744073709551616 ^ m * (h * 18446744073709551616 + n + 1) := by
        rw [Nat.mul_add _ _ 1, Nat.mul_comm h, Nat.add_comm _ n]
        omega
      have := Nat.lt_of_mul_lt_mul_left h4
      omega
    · rw [Nat.div_lt_iff_lt_mul ht]
      have := Nat.mul_le_mul_left 18446744073709551616 (show h + 1 ≤ t by omega)
      omega
end Go.Proofs.Ytdonecohnemomaa
