/- parts: what its calls keep. -/
import Derived.Test.YtjljmccdlkdgoaaRefRound
import Derived.Test.YtjljmccdlkdgoaaPaNum
import Derived.BigQuiet
import Derived.Deep.QuietTactic
namespace Go.Proofs.Ytjljmccdlkdgoaa
open Go.RowKit Go.Shelf

theorem res4 {fn : Func} {t u v x : Tmp} (h : fn.results = #[.tmp t, .tmp u, .tmp v, .tmp x]) (tmps : Array Value) (P : Program) (w : World) :
    (results fn tmps).run P w = .ok (.tuple #[tmps.getD t undef, tmps.getD u undef, tmps.getD v undef, tmps.getD x undef]) w := by
  simp [results, h]
theorem pzero1 (neg : Bool) (w : World) : Calls Try.prog 23 #[.bool neg] w fun e W' => e = .returned (.int .u64 (sgn neg : Int)) ∧ w = W' := by
  go_enter Try.func23, Try.ntmps23
  cases neg
  · go_wp2
    go_ret
    simp [sgn]
  · go_wp2
    go_ret
    simp [sgn]
theorem pclass1 {a : Nat} {w : World} (ha : (a : Int) ≤ 18446744073709551615) : Calls Try.prog 24 #[.int .u64 (a : Int)] w fun e W' => e = .returned (.int .i64 (cls a : Int)) ∧ w = W' := by
  have hn := not_top (a := a) (by omega)
  have hc : (a % 9223372036854775808 = 0 ∧ cls a = 0) ∨ (a % 9223372036854775808 ≠ 0 ∧ a % 9223372036854775808 ≤ 9218868437227405311 ∧ cls a = 1) ∨ (a % 9223372036854775808 = 9218868437227405312 ∧ cls a = 2) ∨ (9218868437227405313 ≤ a % 9223372036854775808 ∧ cls a = 3) := by
    unfold cls fe ff
    by_cases h1 : a / 4503599627370496 % 2048 = 2047
    · rw [if_pos h1]
      by_cases h2 : a % 4503599627370496 = 0
      · rw [if_pos h2]; omega
      · rw [if_neg h2]; omega
    · rw [if_neg h1]
      by_cases h2 : a / 4503599627370496 % 2048 = 0 ∧ a % 4503599627370496 = 0
      · rw [if_pos h2]; omega
      · rw [if_neg h2]; omega
  generalize cls a = c at *
  generalize a % 9223372036854775808 = z at *
  go_enter Try.func24, Try.ntmps24
  rcases hc with ⟨rfl, rfl⟩ | ⟨h1, h2, rfl⟩ | ⟨rfl, rfl⟩ | ⟨h1, rfl⟩
  · go_wp2
    go_ret
    exact ⟨rfl, rfl⟩
  · have d1 : ((z : Int) == 0) = false := beq_eq_false_iff_ne.2 (by omega)
    have d2 : decide ((z : Int) < 9218868437227405312) = true := decide_eq_true (by omega)
    clear h1 h2
    go_wp2
    go_ret
    exact ⟨rfl, rfl⟩
  · go_wp2
    go_ret
    exact ⟨rfl, rfl⟩
  · have d1 : ((z : Int) == 0) = false := beq_eq_false_iff_ne.2 (by omega)
    have d2 : decide ((z : Int) < 9218868437227405312) = false := decide_eq_false (by omega)
    have d3 : ((z : Int) == 9218868437227405312) = false := beq_eq_false_iff_ne.2 (by omega)
    clear h1
    go_wp2
    go_ret
    exact ⟨rfl, rfl⟩
end Go.Proofs.Ytjljmccdlkdgoaa

/- parts: cut, gather, goesFarther, beyond, lossFlags. -/
namespace Go.Proofs.Ytjljmccdlkdgoaa
open Go.RowKit Go.Shelf

theorem lef_split (x m : Nat) : lef (x % 2 ^ (m + 1)) (2 ^ (m + 1)) = if x / 2 ^ m % 2 = 0 then (if x % 2 ^ m = 0 then 0 else 1) else (if x % 2 ^ m = 0 then 2 else 3) := by
  have hd : 0 < 2 ^ m := Nat.two_pow_pos m
  have hr : x % 2 ^ m < 2 ^ m := Nat.mod_lt _ hd
  rw [Nat.pow_succ, Nat.mod_mul]
  generalize x % 2 ^ m = r at *
  generalize 2 ^ m = d at *
  rcases Nat.mod_two_eq_zero_or_one (x / d) with h | h
  · rw [h, if_pos rfl, Nat.mul_zero, Nat.add_zero]
    unfold lef
    by_cases h0 : r = 0
    · rw [if_pos h0, if_pos h0]
    · rw [if_neg h0, if_neg h0, if_pos (by omega)]
  · rw [h, if_neg (by decide), Nat.mul_one]
    unfold lef
    by_cases h0 : r = 0
    · rw [if_pos h0, if_neg (by omega), if_neg (by omega), if_pos (by omega)]
    · rw [if_neg h0, if_neg (by omega), if_neg (by omega), if_neg (by omega)]
theorem shr_any {x : Nat} (hx : x < 18446744073709551616) (p : Nat) : (x : Int) / 2 ^ min p 64 = ((x / 2 ^ p : Nat) : Int) := by
  by_cases hp : p ≤ 64
  · rw [Nat.min_eq_left hp, Int.natCast_ediv]
    simp
  · rw [Nat.min_eq_right (by omega)]
    have h1 : x / 2 ^ p = 0 := Nat.div_eq_of_lt (Nat.lt_of_lt_of_le hx (show 2 ^ 64 ≤ 2 ^ p from Nat.pow_le_pow_right (by decide) (by omega)))
    rw [h1]
    omega
theorem low_any {x : Nat} (hx : x < 18446744073709551616) (p : Nat) : bits .and .u64 (x : Int) (IntKind.u64.wrap (IntKind.u64.wrap (2 ^ min p 64) - 1)) = ((x % 2 ^ p : Nat) : Int) := by
  by_cases hp : p < 64
  · have h2 : 2 ^ p < 18446744073709551616 := show 2 ^ p < 2 ^ 64 from Nat.pow_lt_pow_right (by decide) hp
    have h3 : 0 < 2 ^ p := Nat.two_pow_pos p
    have e : IntKind.u64.wrap (IntKind.u64.wrap (2 ^ min p 64) - 1) = ((2 ^ p - 1 : Nat) : Int) := by
      rw [Nat.min_eq_left (by omega), IntKind.wrap_u64, IntKind.wrap_u64, show (2 : Int) ^ p = ((2 ^ p : Nat) : Int) by simp]
      generalize 2 ^ p = d at *
      omega
    rw [e, bits_and_u64_nat _ _ hx (by omega), Nat.and_two_pow_sub_one_eq_mod]
  · have e : IntKind.u64.wrap (IntKind.u64.wrap (2 ^ min p 64) - 1) = ((2 ^ 64 - 1 : Nat) : Int) := by
      rw [Nat.min_eq_right (by omega)]; decide
    rw [e, bits_and_u64_nat _ _ hx (by omega), Nat.and_two_pow_sub_one_eq_mod, Nat.mod_eq_of_lt hx]
    have : (18446744073709551616 : Nat) ≤ 2 ^ p := show 2 ^ 64 ≤ 2 ^ p from Nat.pow_le_pow_right (by decide) (by omega)
    rw [Nat.mod_eq_of_lt (by omega)]
theorem and_one {y : Nat} (hy : y < 18446744073709551616) : bits .and .u64 (y : Int) 1 = ((y % 2 : Nat) : Int) := by
  have h := bits_and_u64_nat y 1 hy (by omega)
  rw [Nat.and_one_is_mod] at h
  exact h
theorem gth_lo {lo : Nat} {more : Bool} (hl : lo < 18446744073709551616) :
    gth lo more = stk (lo * 2 ^ (64 - nbits lo)) more := by
  have h := nbits_le (n := lo) (k := 64) (by simpa using hl)
  unfold gth
  rw [if_pos h, decide_eq_false (by omega), Bool.or_false]
theorem gth_hi {hi lo g : Nat} {more : Bool} (h0 : hi ≠ 0) (hh : hi < 18446744073709551616) (hl : lo < 18446744073709551616) (hg : g = 64 - nbits hi) :
    gth (hi * 18446744073709551616 + lo) more = stk (hi * 2 ^ g + lo / 2 ^ (64 - g)) (more || decide (lo * 2 ^ g % 18446744073709551616 ≠ 0)) ∧ g ≤ 63 ∧ hi * 2 ^ g < 18446744073709551616 := by
  have e : nbits (hi * 18446744073709551616 + lo) = 64 + nbits hi := by
    have := nbits_mul (B := 18446744073709551616) (p := 64) (i := 1) (L := hi) (r := lo) rfl h0 (by omega)
    rw [← this]
    congr 1
    omega
  obtain ⟨b1, b2, b3⟩ := nbits_bounds h0
  have h64 := nbits_le (n := hi) (k := 64) (by simpa using hh)
  unfold gth
  rw [e, if_neg (by omega), show 64 + nbits hi - 64 = 64 - g by omega]
  have hB : (18446744073709551616 : Nat) = 2 ^ g * 2 ^ (64 - g) := by
    rw [← Nat.pow_add, show g + (64 - g) = 64 by omega]
  have hp : 0 < 2 ^ (64 - g) := Nat.two_pow_pos _
  have hq : 0 < 2 ^ g := Nat.two_pow_pos _
  have e1 : (hi * 18446744073709551616 + lo) / 2 ^ (64 - g) = hi * 2 ^ g + lo / 2 ^ (64 - g) := by
    rw [hB, ← Nat.mul_assoc, Nat.mul_comm _ (2 ^ (64 - g)), Nat.mul_add_div hp]
  have e2 : (hi * 18446744073709551616 + lo) % 2 ^ (64 - g) = lo % 2 ^ (64 - g) := by
    rw [hB, ← Nat.mul_assoc, Nat.mul_comm _ (2 ^ (64 - g)), Nat.mul_add_mod]
  have e3 : lo * 2 ^ g % 18446744073709551616 = lo % 2 ^ (64 - g) * 2 ^ g := by
    rw [hB, Nat.mul_comm (2 ^ g) (2 ^ (64 - g)), Nat.mul_mod_mul_right]
  have e4 : (64 < 64 + nbits hi ∧ lo % 2 ^ (64 - g) ≠ 0) = (lo % 2 ^ (64 - g) * 2 ^ g ≠ 0) := by
    refine propext ⟨fun h hz => ?_, fun h => ⟨by omega, fun hz => h (by rw [hz, Nat.zero_mul])⟩⟩
    rcases Nat.mul_eq_zero.1 hz with h1 | h1
    · exact h.2 h1
    · omega
  rw [e1, e2, e3]
  refine ⟨by simp only [e4], by omega, ?_⟩
  have h1 : hi * 2 ^ g < 2 ^ nbits hi * 2 ^ g := Nat.mul_lt_mul_of_pos_right b3 hq
  rw [← Nat.pow_add, show nbits hi + g = 64 by omega] at h1
  exact h1
theorem or_below {a g y : Nat} (ha : a * 2 ^ g < 18446744073709551616) (hg : g ≤ 63) (hy : y < 18446744073709551616) : bits .or .u64 ((a * 2 ^ g : Nat) : Int) ((y / 2 ^ (64 - g) : Nat) : Int) = ((a * 2 ^ g + y / 2 ^ (64 - g) : Nat) : Int) := by
  have h1 : y / 2 ^ (64 - g) < 2 ^ g := by
    rw [Nat.div_lt_iff_lt_mul (Nat.two_pow_pos _), ← Nat.pow_add, show g + (64 - g) = 64 by omega]
    exact hy
  have h2 : y / 2 ^ (64 - g) ≤ y := Nat.div_le_self _ _
  rw [bits_or_u64_nat _ _ ha (by omega), Nat.mul_comm a, ← Nat.two_pow_add_eq_or_of_lt h1]
theorem shl_any (x p : Nat) : IntKind.u64.wrap ((x : Int) * 2 ^ p) = ((x * 2 ^ p % 18446744073709551616 : Nat) : Int) := by
  rw [IntKind.wrap_u64, show (x : Int) * 2 ^ p = ((x * 2 ^ p : Nat) : Int) by simp]
  omega
end Go.Proofs.Ytjljmccdlkdgoaa

/- parts: Round, Exact; what its calls keep. -/
namespace Go.Proofs.Ytjljmccdlkdgoaa
open Go.RowKit Go.Shelf

theorem below_same {w w' : World} (h : w = w') : Below w.heap.size w w' := h ▸ Below.refl _ _
theorem pclass {a : Nat} {w : World} (ha : (a : Int) ≤ 18446744073709551615) : Calls Try.prog 24 #[.int .u64 (a : Int)] w fun e W' => e = .returned (.int .i64 (cls a : Int)) ∧ Below w.heap.size w W' :=
  (pclass1 ha).mono fun _ _ ⟨h, k⟩ => ⟨h, below_same k⟩
theorem pzero (neg : Bool) (w : World) : Calls Try.prog 23 #[.bool neg] w fun e W' => e = .returned (.int .u64 (sgn neg : Int)) ∧ Below w.heap.size w W' :=
  (pzero1 neg w).mono fun _ _ ⟨h, k⟩ => ⟨h, below_same k⟩

end Go.Proofs.Ytjljmccdlkdgoaa
