/- parts: what its calls keep. -/
import Derived.Test.YtdcebkhdnhdejaaRefRound
import Derived.Test.YtdcebkhdnhdejaaPaNum
namespace Go.Proofs.Ytdcebkhdnhdejaa
open Go.RowKit Go.Shelf

theorem res4 {fn : Func} {t u v x : Tmp} (h : fn.results = #[.tmp t, .tmp u, .tmp v, .tmp x]) (tmps : Array Value) (P : Program) (w : World) :
    (results fn tmps).run P w = .ok (.tuple #[tmps.getD t undef, tmps.getD u undef, tmps.getD v undef, tmps.getD x undef]) w := by
  simp [results, h]
theorem pzero1 (neg : Bool) (w : World) : Calls Try.prog 58 #[.bool neg] w fun e W' => e = .returned (.int .u64 (sgn neg : Int)) ∧ w = W' := by
  go_enter Try.func58, Try.ntmps58
  cases neg
  · go_wp2
    go_ret
    simp [sgn]
  · go_wp2
    go_ret
    simp [sgn]
theorem pinf1 (neg : Bool) (w : World) : Calls Try.prog 75 #[.bool neg] w fun e W' => e = .returned (.int .u64 (infB neg : Int)) ∧ w = W' := by
  have h := pzero1 neg w
  have ho := or_sign neg (q := 9218868437227405312) (by omega)
  unfold infB
  generalize sgn neg = s at *
  go_enter Try.func75, Try.ntmps75
  go_wp2_with fail
  refine h.mono ?_
  rintro e W' ⟨rfl, rfl⟩
  go_wp2
  go_ret
  exact ⟨ret_int ho, rfl⟩
theorem plen (x : Nat) (hx : x < 18446744073709551616) (w : World) :
    Calls Try.prog 146 #[.int .u64 (x : Int)] w fun e w' => e = .returned (.int .i64 (nbits x : Int)) ∧ w = w' := by
  have hl := len64_calls x hx w
  rwa [bitLen_nbits hx] at hl
theorem plz (x : Nat) (hx : x < 18446744073709551616) (w : World) :
    Calls Try.prog 142 #[.int .u64 (x : Int)] w fun e w' => e = .returned (.int .i64 ((64 - nbits x : Nat) : Int)) ∧ w = w' := by
  have h64 := nbits_le (n := x) (k := 64) (by simpa using hx)
  have hl := plen x hx w
  generalize nbits x = b at *
  have he : (64 : Int) - (b : Int) = ((64 - b : Nat) : Int) := by omega
  go_enter Try.func142, Try.ntmps142
  go_wp2_with fail
  refine hl.mono ?_
  rintro e w' ⟨rfl, rfl⟩
  clear hl
  go_wp2
  go_ret
  exact ⟨rfl, rfl⟩
theorem pbits {hi lo : Nat} {w : World} (hh : (hi : Int) ≤ 18446744073709551615) (hl : (lo : Int) ≤ 18446744073709551615) :
    Calls Try.prog 134 #[.int .u64 (hi : Int), .int .u64 (lo : Int)] w fun e w' => e = .returned (.int .i64 (nbits (hi * 18446744073709551616 + lo) : Int)) ∧ w = w' := by
  by_cases h0 : hi = 0
  · subst h0
    rw [Nat.zero_mul, Nat.zero_add]
    have h := plen lo (by omega) w
    generalize nbits lo = b at *
    go_enter Try.func134, Try.ntmps134
    go_wp2_with fail
    refine h.mono ?_
    rintro e w' ⟨rfl, rfl⟩
    clear h
    go_wp2
    go_ret
    exact ⟨rfl, rfl⟩
  · have e : nbits (hi * 18446744073709551616 + lo) = 64 + nbits hi := by
      have := nbits_mul (B := 18446744073709551616) (p := 64) (i := 1) (L := hi) (r := lo) rfl h0 (by omega)
      rw [← this]
      congr 1
      omega
    rw [e]
    have h64 := nbits_le (n := hi) (k := 64) (by omega)
    have h := plen hi (by omega) w
    generalize nbits hi = b at *
    have d0 : ((hi : Int) == 0) = false := beq_eq_false_iff_ne.2 (by omega)
    clear e h0
    go_enter Try.func134, Try.ntmps134
    go_wp2_with fail
    refine h.mono ?_
    rintro e w' ⟨rfl, rfl⟩
    clear h
    go_wp2
    go_ret
    refine ⟨ret_int ?_, rfl⟩
    go_num
theorem pclass1 {a : Nat} {w : World} (ha : (a : Int) ≤ 18446744073709551615) : Calls Try.prog 59 #[.int .u64 (a : Int)] w fun e W' => e = .returned (.int .i64 (cls a : Int)) ∧ w = W' := by
  have hn := not_top (a := a) (by omega)
  have hc : (a % 9223372036854775808 = 0 ∧ cls a = 0) ∨ (a % 9223372036854775808 ≠ 0 ∧ a % 9223372036854775808 ≤ 9218868437227405311 ∧ cls a = 1) ∨ (a % 9223372036854775808 = 9218868437227405312 ∧ cls a = 2) ∨ (9218868437227405313 ≤ a % 9223372036854775808 ∧ cls a = 3) := by
    unfold cls fe ff
    by_cases h1 : a / 4503599627370496 % 2048 = 2047
    · rw [if_pos h1]
      by_cases h2 : a % 4503599627370496 = 0
      · rw [if_pos h2]; omega
      · rw [if_neg h2]; omega
    · rw [if_neg h1]
      by_cases h2 : a / 4503599627370496 % 2048 = 0 ∧ a % 4503599627370496 = 0
      · rw [if_pos h2]; omega
      · rw [if_neg h2]; omega
  generalize cls a = c at *
  generalize a % 9223372036854775808 = z at *
  go_enter Try.func59, Try.ntmps59
  rcases hc with ⟨rfl, rfl⟩ | ⟨h1, h2, rfl⟩ | ⟨rfl, rfl⟩ | ⟨h1, rfl⟩
  · go_wp2
    go_ret
    exact ⟨rfl, rfl⟩
  · have d1 : ((z : Int) == 0) = false := beq_eq_false_iff_ne.2 (by omega)
    have d2 : decide ((z : Int) < 9218868437227405312) = true := decide_eq_true (by omega)
    clear h1 h2
    go_wp2
    go_ret
    exact ⟨rfl, rfl⟩
  · go_wp2
    go_ret
    exact ⟨rfl, rfl⟩
  · have d1 : ((z : Int) == 0) = false := beq_eq_false_iff_ne.2 (by omega)
    have d2 : decide ((z : Int) < 9218868437227405312) = false := decide_eq_false (by omega)
    have d3 : ((z : Int) == 9218868437227405312) = false := beq_eq_false_iff_ne.2 (by omega)
    clear h1
    go_wp2
    go_ret
    exact ⟨rfl, rfl⟩
theorem psplit_inf1 {a : Nat} {w : World} (ha : (a : Int) ≤ 18446744073709551615) (h : fe a = 2047) : Calls Try.prog 113 #[.int .u64 (a : Int)] w fun e W' => e = .returned (.tuple #[.bool false, .int .u64 0, .int .i64 0, .int .i64 23]) ∧ w = W' := by
  have hc := pclass1 (w := w) ha
  have hk : cls a = 2 ∨ cls a = 3 := by
    unfold cls
    rw [if_pos h]
    split <;> omega
  clear h
  generalize cls a = c at *
  go_enter Try.func113, Try.ntmps113
  rcases hk with rfl | rfl
  · go_wp2_with fail
    refine hc.mono ?_
    rintro e W' ⟨rfl, rfl⟩
    clear hc
    go_wp2
    (try simp only [Exit.inBlock, Exit.then]); refine bodyPost_ret (res4 rfl _ _ _) rfl ?_
    simp
  · go_wp2_with fail
    refine hc.mono ?_
    rintro e W' ⟨rfl, rfl⟩
    clear hc
    go_wp2
    (try simp only [Exit.inBlock, Exit.then]); refine bodyPost_ret (res4 rfl _ _ _) rfl ?_
    simp
theorem psplit_fin1 {a : Nat} {w : World} (ha : (a : Int) ≤ 18446744073709551615) (h : fe a ≠ 2047) : Calls Try.prog 113 #[.int .u64 (a : Int)] w fun e W' => e = .returned (.tuple #[.bool (neg6 a), .int .u64 (sig a : Int), .int .i64 (xpo a), .int .i64 0]) ∧ w = W' := by
  have hc := pclass1 (w := w) ha
  have hk : cls a = 0 ∨ cls a = 1 := by
    have := cls_fin.2 h
    omega
  have hn := not_top (a := a) (by omega)
  have ht := and_top (a := a) (by omega)
  have hl := and_low (a := a) (by omega)
  have ho := or_lead (ff_lt a)
  have h1 := fe_lt a
  have h2 := ff_lt a
  have hs : ((a % 9223372036854775808 : Nat) : Int) / 4503599627370496 = (fe a : Int) := by unfold fe; omega
  unfold sig xpo
  generalize cls a = c at *
  generalize neg6 a = ng at *
  generalize fe a = x at *
  generalize ff a = y at *
  generalize a % 9223372036854775808 = z at *
  have h1' : (x : Int) ≤ 2047 := by omega
  clear h1 h2
  by_cases h3 : x = 0
  · subst h3
    rw [if_pos rfl, if_pos rfl]
    go_enter Try.func113, Try.ntmps113
    rcases hk with rfl | rfl
    · go_wp2_with fail
      refine hc.mono ?_
      rintro e W' ⟨rfl, rfl⟩
      clear hc
      go_wp2
      (try simp only [Exit.inBlock, Exit.then]); refine bodyPost_ret (res4 rfl _ _ _) rfl ?_
      simp
    · go_wp2_with fail
      refine hc.mono ?_
      rintro e W' ⟨rfl, rfl⟩
      clear hc
      go_wp2
      (try simp only [Exit.inBlock, Exit.then]); refine bodyPost_ret (res4 rfl _ _ _) rfl ?_
      simp
  · rw [if_neg h3, if_neg h3]
    have d3 : ((x : Int) == 0) = false := beq_eq_false_iff_ne.2 (by omega)
    clear h3
    go_enter Try.func113, Try.ntmps113
    rcases hk with rfl | rfl
    · go_wp2_with fail
      refine hc.mono ?_
      rintro e W' ⟨rfl, rfl⟩
      clear hc
      go_wp2
      (try simp only [Exit.inBlock, Exit.then]); refine bodyPost_ret (res4 rfl _ _ _) rfl ?_
      simp
      omega
    · go_wp2_with fail
      refine hc.mono ?_
      rintro e W' ⟨rfl, rfl⟩
      clear hc
      go_wp2
      (try simp only [Exit.inBlock, Exit.then]); refine bodyPost_ret (res4 rfl _ _ _) rfl ?_
      simp
      omega
end Go.Proofs.Ytdcebkhdnhdejaa
