/- parts: what its calls keep. -/
import Derived.Test.YtjapilpjahhimaaRefRound
import Derived.Test.YtjapilpjahhimaaPaNum
import Derived.BigQuiet
import Derived.Deep.QuietTactic
namespace Go.Proofs.Ytjapilpjahhimaa
open Go.RowKit Go.Shelf

theorem res4 {fn : Func} {t u v x : Tmp} (h : fn.results = #[.tmp t, .tmp u, .tmp v, .tmp x]) (tmps : Array Value) (P : Program) (w : World) :
    (results fn tmps).run P w = .ok (.tuple #[tmps.getD t undef, tmps.getD u undef, tmps.getD v undef, tmps.getD x undef]) w := by
  simp [results, h]
theorem pzero1 (neg : Bool) (w : World) : Calls Try.prog 92 #[.bool neg] w fun e W' => e = .returned (.int .u64 (sgn neg : Int)) ∧ w = W' := by
  go_enter Try.func92, Try.ntmps92
  cases neg
  · go_wp2
    go_ret
    simp [sgn]
  · go_wp2
    go_ret
    simp [sgn]
theorem pinf1 (neg : Bool) (w : World) : Calls Try.prog 90 #[.bool neg] w fun e W' => e = .returned (.int .u64 (infB neg : Int)) ∧ w = W' := by
  have h := pzero1 neg w
  have ho := or_sign neg (q := 9218868437227405312) (by omega)
  unfold infB
  generalize sgn neg = s at *
  go_enter Try.func90, Try.ntmps90
  go_wp2_with fail
  refine h.mono ?_
  rintro e W' ⟨rfl, rfl⟩
  go_wp2
  go_ret
  exact ⟨ret_int ho, rfl⟩
theorem plen (x : Nat) (hx : x < 18446744073709551616) (w : World) :
    Calls Try.prog 126 #[.int .u64 (x : Int)] w fun e w' => e = .returned (.int .i64 (nbits x : Int)) ∧ w = w' := by
  have hl := len64_calls x hx w
  rwa [bitLen_nbits hx] at hl
theorem plz (x : Nat) (hx : x < 18446744073709551616) (w : World) :
    Calls Try.prog 127 #[.int .u64 (x : Int)] w fun e w' => e = .returned (.int .i64 ((64 - nbits x : Nat) : Int)) ∧ w = w' := by
  have h64 := nbits_le (n := x) (k := 64) (by simpa using hx)
  have hl := plen x hx w
  generalize nbits x = b at *
  have he : (64 : Int) - (b : Int) = ((64 - b : Nat) : Int) := by omega
  go_enter Try.func127, Try.ntmps127
  go_wp2_with fail
  refine hl.mono ?_
  rintro e w' ⟨rfl, rfl⟩
  clear hl
  go_wp2
  go_ret
  exact ⟨rfl, rfl⟩
theorem pbits {hi lo : Nat} {w : World} (hh : (hi : Int) ≤ 18446744073709551615) (hl : (lo : Int) ≤ 18446744073709551615) :
    Calls Try.prog 117 #[.int .u64 (hi : Int), .int .u64 (lo : Int)] w fun e w' => e = .returned (.int .i64 (nbits (hi * 18446744073709551616 + lo) : Int)) ∧ w = w' := by
  by_cases h0 : hi = 0
  · subst h0
    rw [Nat.zero_mul, Nat.zero_add]
    have h := plen lo (by omega) w
    generalize nbits lo = b at *
    go_enter Try.func117, Try.ntmps117
    go_wp2_with fail
    refine h.mono ?_
    rintro e w' ⟨rfl, rfl⟩
    clear h
    go_wp2
    go_ret
    exact ⟨rfl, rfl⟩
  · have e : nbits (hi * 18446744073709551616 + lo) = 64 + nbits hi := by
      have := nbits_mul (B := 18446744073709551616) (p := 64) (i := 1) (L := hi) (r := lo) rfl h0 (by omega)
      rw [← this]
      congr 1
      omega
    rw [e]
    have h64 := nbits_le (n := hi) (k := 64) (by omega)
    have h := plen hi (by omega) w
    generalize nbits hi = b at *
    have d0 : ((hi : Int) == 0) = false := beq_eq_false_iff_ne.2 (by omega)
    clear e h0
    go_enter Try.func117, Try.ntmps117
    go_wp2_with fail
    refine h.mono ?_
    rintro e w' ⟨rfl, rfl⟩
    clear h
    go_wp2
    go_ret
    refine ⟨ret_int ?_, rfl⟩
    go_num
theorem pclass1 {a : Nat} {w : World} (ha : (a : Int) ≤ 18446744073709551615) : Calls Try.prog 46 #[.int .u64 (a : Int)] w fun e W' => e = .returned (.int .i64 (cls a : Int)) ∧ w = W' := by
  have hn := not_top (a := a) (by omega)
  have hc : (a % 9223372036854775808 = 0 ∧ cls a = 0) ∨ (a % 9223372036854775808 ≠ 0 ∧ a % 9223372036854775808 ≤ 9218868437227405311 ∧ cls a = 1) ∨ (a % 9223372036854775808 = 9218868437227405312 ∧ cls a = 2) ∨ (9218868437227405313 ≤ a % 9223372036854775808 ∧ cls a = 3) := by
    unfold cls fe ff
    by_cases h1 : a / 4503599627370496 % 2048 = 2047
    · rw [if_pos h1]
      by_cases h2 : a % 4503599627370496 = 0
      · rw [if_pos h2]; omega
      · rw [if_neg h2]; omega
    · rw [if_neg h1]
      by_cases h2 : a / 4503599627370496 % 2048 = 0 ∧ a % 4503599627370496 = 0
      · rw [if_pos h2]; omega
      · rw [if_neg h2]; omega
  generalize cls a = c at *
  generalize a % 9223372036854775808 = z at *
  go_enter Try.func46, Try.ntmps46
  rcases hc with ⟨rfl, rfl⟩ | ⟨h1, h2, rfl⟩ | ⟨rfl, rfl⟩ | ⟨h1, rfl⟩
  · go_wp2
    go_ret
    exact ⟨rfl, rfl⟩
  · have d1 : ((z : Int) == 0) = false := beq_eq_false_iff_ne.2 (by omega)
    have d2 : decide ((z : Int) < 9218868437227405312) = true := decide_eq_true (by omega)
    clear h1 h2
    go_wp2
    go_ret
    exact ⟨rfl, rfl⟩
  · go_wp2
    go_ret
    exact ⟨rfl, rfl⟩
  · have d1 : ((z : Int) == 0) = false := beq_eq_false_iff_ne.2 (by omega)
    have d2 : decide ((z : Int) < 9218868437227405312) = false := decide_eq_false (by omega)
    have d3 : ((z : Int) == 9218868437227405312) = false := beq_eq_false_iff_ne.2 (by omega)
    clear h1
    go_wp2
    go_ret
    exact ⟨rfl, rfl⟩
theorem psplit_inf1 {a : Nat} {w : World} (ha : (a : Int) ≤ 18446744073709551615) (h : fe a = 2047) : Calls Try.prog 105 #[.int .u64 (a : Int)] w fun e W' => e = .returned (.tuple #[.bool false, .int .u64 0, .int .i64 0, .int .i64 23]) ∧ w = W' := by
  have hc := pclass1 (w := w) ha
  have hk : cls a = 2 ∨ cls a = 3 := by
    unfold cls
    rw [if_pos h]
    split <;> omega
  clear h
  generalize cls a = c at *
  go_enter Try.func105, Try.ntmps105
  rcases hk with rfl | rfl
  · go_wp2_with fail
    refine hc.mono ?_
    rintro e W' ⟨rfl, rfl⟩
    clear hc
    go_wp2
    (try simp only [Exit.inBlock, Exit.then]); refine bodyPost_ret (res4 rfl _ _ _) rfl ?_
    simp
  · go_wp2_with fail
    refine hc.mono ?_
    rintro e W' ⟨rfl, rfl⟩
    clear hc
    go_wp2
    (try simp only [Exit.inBlock, Exit.then]); refine bodyPost_ret (res4 rfl _ _ _) rfl ?_
    simp
theorem psplit_fin1 {a : Nat} {w : World} (ha : (a : Int) ≤ 18446744073709551615) (h : fe a ≠ 2047) : Calls Try.prog 105 #[.int .u64 (a : Int)] w fun e W' => e = .returned (.tuple #[.bool (neg6 a), .int .u64 (sig a : Int), .int .i64 (xpo a), .int .i64 0]) ∧ w = W' := by
  have hc := pclass1 (w := w) ha
  have hk : cls a = 0 ∨ cls a = 1 := by
    have := cls_fin.2 h
    omega
  have hn := not_top (a := a) (by omega)
  have ht := and_top (a := a) (by omega)
  have hl := and_low (a := a) (by omega)
  have ho := or_lead (ff_lt a)
  have h1 := fe_lt a
  have h2 := ff_lt a
  have hs : ((a % 9223372036854775808 : Nat) : Int) / 4503599627370496 = (fe a : Int) := by unfold fe; omega
  unfold sig xpo
  generalize cls a = c at *
  generalize neg6 a = ng at *
  generalize fe a = x at *
  generalize ff a = y at *
  generalize a % 9223372036854775808 = z at *
  have h1' : (x : Int) ≤ 2047 := by omega
  clear h1 h2
  by_cases h3 : x = 0
  · subst h3
    rw [if_pos rfl, if_pos rfl]
    go_enter Try.func105, Try.ntmps105
    rcases hk with rfl | rfl
    · go_wp2_with fail
      refine hc.mono ?_
      rintro e W' ⟨rfl, rfl⟩
      clear hc
      go_wp2
      (try simp only [Exit.inBlock, Exit.then]); refine bodyPost_ret (res4 rfl _ _ _) rfl ?_
      simp
    · go_wp2_with fail
      refine hc.mono ?_
      rintro e W' ⟨rfl, rfl⟩
      clear hc
      go_wp2
      (try simp only [Exit.inBlock, Exit.then]); refine bodyPost_ret (res4 rfl _ _ _) rfl ?_
      simp
  · rw [if_neg h3, if_neg h3]
    have d3 : ((x : Int) == 0) = false := beq_eq_false_iff_ne.2 (by omega)
    clear h3
    go_enter Try.func105, Try.ntmps105
    rcases hk with rfl | rfl
    · go_wp2_with fail
      refine hc.mono ?_
      rintro e W' ⟨rfl, rfl⟩
      clear hc
      go_wp2
      (try simp only [Exit.inBlock, Exit.then]); refine bodyPost_ret (res4 rfl _ _ _) rfl ?_
      simp
      omega
    · go_wp2_with fail
      refine hc.mono ?_
      rintro e W' ⟨rfl, rfl⟩
      clear hc
      go_wp2
      (try simp only [Exit.inBlock, Exit.then]); refine bodyPost_ret (res4 rfl _ _ _) rfl ?_
      simp
      omega
end Go.Proofs.Ytjapilpjahhimaa

/- parts: cut, gather, goesFarther, beyond, lossFlags. -/
namespace Go.Proofs.Ytjapilpjahhimaa
open Go.RowKit Go.Shelf

theorem pgoes {neg : Bool} {q left : Nat} {mode : Int} {w : World} (hq : (q : Int) ≤ 18446744073709551615) (hl : left ≤ 3) :
    Calls Try.prog 120 #[.bool neg, .int .u64 (q : Int), .int .i64 (left : Int), .int .i64 mode] w fun e w' => e = .returned (.bool (goes neg mode q left)) ∧ w = w' := by
  have hl4 : left = 0 ∨ left = 1 ∨ left = 2 ∨ left = 3 := by omega
  clear hl
  unfold goes
  go_enter Try.func120, Try.ntmps120
  by_cases m1 : mode = 1
  · subst m1
    rw [if_pos rfl]
    rcases hl4 with rfl | rfl | rfl | rfl
    all_goals
      go_wp2
      go_ret
      exact ⟨rfl, rfl⟩
  · rw [if_neg m1]
    have d1 : (mode == 1) = false := beq_eq_false_iff_ne.2 m1
    clear m1
    by_cases m2 : mode = 2
    · subst m2
      rw [if_pos rfl]
      go_wp2
      go_ret
      exact ⟨rfl, rfl⟩
    · rw [if_neg m2]
      have d2 : (mode == 2) = false := beq_eq_false_iff_ne.2 m2
      clear m2
      by_cases m3 : mode = 3
      · subst m3
        rw [if_pos rfl]
        cases neg
        all_goals
          rcases hl4 with rfl | rfl | rfl | rfl
          all_goals
            go_wp2
            go_ret
            exact ⟨rfl, rfl⟩
      · rw [if_neg m3]
        have d3 : (mode == 3) = false := beq_eq_false_iff_ne.2 m3
        clear m3
        by_cases m4 : mode = 4
        · subst m4
          rw [if_pos rfl]
          cases neg
          all_goals
            rcases hl4 with rfl | rfl | rfl | rfl
            all_goals
              go_wp2
              go_ret
              exact ⟨rfl, rfl⟩
        · rw [if_neg m4]
          have d4 : (mode == 4) = false := beq_eq_false_iff_ne.2 m4
          clear m4
          have hm : (q : Int) % 2 = ((q % 2 : Nat) : Int) := by omega
          have hr : (((q % 2 : Nat) : Int) == 1) = decide (q % 2 = 1) := by
            by_cases h : q % 2 = 1
            · rw [h]; rfl
            · rw [decide_eq_false h]; exact beq_eq_false_iff_ne.2 (by omega)
          rcases hl4 with rfl | rfl | rfl | rfl
          · go_wp2
            go_ret
            exact ⟨rfl, rfl⟩
          · go_wp2
            go_ret
            exact ⟨rfl, rfl⟩
          · have hm2 : (q % 2 : Nat) ≤ 1 := by omega
            generalize q % 2 = p at *
            have hp : p = 0 ∨ p = 1 := by omega
            clear hm2
            rcases hp with rfl | rfl
            · go_wp2
              go_ret
              exact ⟨rfl, rfl⟩
            · go_wp2
              go_ret
              exact ⟨rfl, rfl⟩
          · go_wp2
            go_ret
            exact ⟨rfl, rfl⟩
theorem pbeyond {neg : Bool} {mode : Int} {w : World} :
    Calls Try.prog 121 #[.bool neg, .int .i64 mode] w fun e w' => e = .returned (.int .u64 ((rbig neg mode).1 : Int)) ∧ w = w' := by
  have hg := pgoes (neg := neg) (q := 0) (left := 3) (mode := mode) (w := w) (by omega) (by omega)
  have hi := pinf1 neg w
  have hz := pzero1 neg w
  have ho := or_sign neg (q := 9218868437227405311) (by omega)
  have e := rbig_goes neg mode
  rw [e]
  clear e
  dsimp only
  generalize sgn neg = s at *
  generalize infB neg = I at *
  generalize goes neg mode 0 3 = g at *
  go_enter Try.func121, Try.ntmps121
  go_wp2_with fail
  refine hg.mono ?_
  rintro e w' ⟨rfl, rfl⟩
  cases g
  · clear hg
    go_wp2_with fail
    refine hz.mono ?_
    rintro e w' ⟨rfl, rfl⟩
    go_wp2
    go_ret
    exact ⟨ret_int ho, rfl⟩
  · clear hg
    go_wp2_with fail
    refine hi.mono ?_
    rintro e w' ⟨rfl, rfl⟩
    go_wp2
    go_ret
    exact ⟨rfl, rfl⟩
theorem ploss {left : Nat} {top : Int} {w : World} (hl : left ≤ 3) :
    Calls Try.prog 122 #[.int .i64 (left : Int), .int .i64 top] w fun e w' => e = .returned (.int .i64 (flg left (decide (top < -1022)) : Int)) ∧ w = w' := by
  unfold flg
  go_enter Try.func122, Try.ntmps122
  by_cases h0 : left = 0
  · subst h0
    rw [if_pos rfl]
    go_wp2
    go_ret
    exact ⟨rfl, rfl⟩
  · rw [if_neg h0]
    have d0 : ((left : Int) == 0) = false := beq_eq_false_iff_ne.2 (by omega)
    clear h0 hl
    by_cases h1 : top < -1022
    · have d1 : decide (top < -1022) = true := decide_eq_true h1
      rw [d1, if_pos rfl]
      clear h1
      go_wp2
      go_ret
      exact ⟨rfl, rfl⟩
    · have d1 : decide (top < -1022) = false := decide_eq_false h1
      rw [d1, if_neg Bool.false_ne_true]
      clear h1
      go_wp2
      go_ret
      exact ⟨rfl, rfl⟩
theorem lef_split (x m : Nat) : lef (x % 2 ^ (m + 1)) (2 ^ (m + 1)) = if x / 2 ^ m % 2 = 0 then (if x % 2 ^ m = 0 then 0 else 1) else (if x % 2 ^ m = 0 then 2 else 3) := by
  have hd : 0 < 2 ^ m := Nat.two_pow_pos m
  have hr : x % 2 ^ m < 2 ^ m := Nat.mod_lt _ hd
  rw [Nat.pow_succ, Nat.mod_mul]
  generalize x % 2 ^ m = r at *
  generalize 2 ^ m = d at *
  rcases Nat.mod_two_eq_zero_or_one (x / d) with h | h
  · rw [h, if_pos rfl, Nat.mul_zero, Nat.add_zero]
    unfold lef
    by_cases h0 : r = 0
    · rw [if_pos h0, if_pos h0]
    · rw [if_neg h0, if_neg h0, if_pos (by omega)]
  · rw [h, if_neg (by decide), Nat.mul_one]
    unfold lef
    by_cases h0 : r = 0
    · rw [if_pos h0, if_neg (by omega), if_neg (by omega), if_pos (by omega)]
    · rw [if_neg h0, if_neg (by omega), if_neg (by omega), if_neg (by omega)]
theorem shr_any {x : Nat} (hx : x < 18446744073709551616) (p : Nat) : (x : Int) / 2 ^ min p 64 = ((x / 2 ^ p : Nat) : Int) := by
  by_cases hp : p ≤ 64
  · rw [Nat.min_eq_left hp, Int.natCast_ediv]
    simp
  · rw [Nat.min_eq_right (by omega)]
    have h1 : x / 2 ^ p = 0 := Nat.div_eq_of_lt (Nat.lt_of_lt_of_le hx (show 2 ^ 64 ≤ 2 ^ p from Nat.pow_le_pow_right (by decide) (by omega)))
    rw [h1]
    omega
theorem low_any {x : Nat} (hx : x < 18446744073709551616) (p : Nat) : bits .and .u64 (x : Int) (IntKind.u64.wrap (IntKind.u64.wrap (2 ^ min p 64) - 1)) = ((x % 2 ^ p : Nat) : Int) := by
  by_cases hp : p < 64
  · have h2 : 2 ^ p < 18446744073709551616 := show 2 ^ p < 2 ^ 64 from Nat.pow_lt_pow_right (by decide) hp
    have h3 : 0 < 2 ^ p := Nat.two_pow_pos p
    have e : IntKind.u64.wrap (IntKind.u64.wrap (2 ^ min p 64) - 1) = ((2 ^ p - 1 : Nat) : Int) := by
      rw [Nat.min_eq_left (by omega), IntKind.wrap_u64, IntKind.wrap_u64, show (2 : Int) ^ p = ((2 ^ p : Nat) : Int) by simp]
      generalize 2 ^ p = d at *
      omega
    rw [e, bits_and_u64_nat _ _ hx (by omega), Nat.and_two_pow_sub_one_eq_mod]
  · have e : IntKind.u64.wrap (IntKind.u64.wrap (2 ^ min p 64) - 1) = ((2 ^ 64 - 1 : Nat) : Int) := by
      rw [Nat.min_eq_right (by omega)]; decide
    rw [e, bits_and_u64_nat _ _ hx (by omega), Nat.and_two_pow_sub_one_eq_mod, Nat.mod_eq_of_lt hx]
    have : (18446744073709551616 : Nat) ≤ 2 ^ p := show 2 ^ 64 ≤ 2 ^ p from Nat.pow_le_pow_right (by decide) (by omega)
    rw [Nat.mod_eq_of_lt (by omega)]
theorem and_one {y : Nat} (hy : y < 18446744073709551616) : bits .and .u64 (y : Int) 1 = ((y % 2 : Nat) : Int) := by
  have h := bits_and_u64_nat y 1 hy (by omega)
  rw [Nat.and_one_is_mod] at h
  exact h
theorem pcut {x n m : Nat} {w : World} (hx : (x : Int) ≤ 18446744073709551615) (hn : n = m + 1) (hm : n ≤ 1000000) :
    Calls Try.prog 118 #[.int .u64 (x : Int), .int .i64 (n : Int)] w fun e w' => e = .returned (.tuple #[.int .u64 ((x / 2 ^ n : Nat) : Int), .int .i64 (lef (x % 2 ^ n) (2 ^ n) : Int)]) ∧ w = w' := by
  have hlf := lef_split x m
  rw [← hn] at hlf
  have hs1 := shr_any (x := x) (by omega) m
  have hs2 := shr_any (x := x) (by omega) n
  have hr := low_any (x := x) (by omega) m
  have hy : x / 2 ^ m < 18446744073709551616 := Nat.lt_of_le_of_lt (Nat.div_le_self _ _) (by omega)
  have ha := and_one hy
  have z1 : (n : Int) - 1 = (m : Int) := by omega
  have hb : x / 2 ^ m % 2 = 0 ∨ x / 2 ^ m % 2 = 1 := by omega
  have hl : x / 2 ^ n ≤ x := Nat.div_le_self _ _
  clear hn hy
  generalize x / 2 ^ n = Z at *
  generalize lef (x % 2 ^ n) (2 ^ n) = L at *
  generalize x / 2 ^ m = Y at *
  generalize x % 2 ^ m = R at *
  generalize Y % 2 = B at *
  go_enter Try.func118, Try.ntmps118
  by_cases hR : R = 0
  · subst hR
    rcases hb with rfl | rfl
    · rw [if_pos rfl, if_pos rfl] at hlf
      subst hlf
      go_wp2
      go_ret2
      exact ⟨rfl, rfl⟩
    · rw [if_neg (by decide), if_pos rfl] at hlf
      subst hlf
      go_wp2
      go_ret2
      exact ⟨rfl, rfl⟩
  · have d0 : ((R : Int) == 0) = false := beq_eq_false_iff_ne.2 (by omega)
    rcases hb with rfl | rfl
    · rw [if_pos rfl, if_neg hR] at hlf
      subst hlf
      clear hR
      go_wp2
      go_ret2
      exact ⟨rfl, rfl⟩
    · rw [if_neg (by decide), if_neg hR] at hlf
      subst hlf
      clear hR
      go_wp2
      go_ret2
      exact ⟨rfl, rfl⟩
theorem gth_lo {lo : Nat} {more : Bool} (hl : lo < 18446744073709551616) :
    gth lo more = stk (lo * 2 ^ (64 - nbits lo)) more := by
  have h := nbits_le (n := lo) (k := 64) (by simpa using hl)
  unfold gth
  rw [if_pos h, decide_eq_false (by omega), Bool.or_false]
theorem gth_hi {hi lo g : Nat} {more : Bool} (h0 : hi ≠ 0) (hh : hi < 18446744073709551616) (hl : lo < 18446744073709551616) (hg : g = 64 - nbits hi) :
    gth (hi * 18446744073709551616 + lo) more = stk (hi * 2 ^ g + lo / 2 ^ (64 - g)) (more || decide (lo * 2 ^ g % 18446744073709551616 ≠ 0)) ∧ g ≤ 63 ∧ hi * 2 ^ g < 18446744073709551616 := by
  have e : nbits (hi * 18446744073709551616 + lo) = 64 + nbits hi := by
    have := nbits_mul (B := 18446744073709551616) (p := 64) (i := 1) (L := hi) (r := lo) rfl h0 (by omega)
    rw [← this]
    congr 1
    omega
  obtain ⟨b1, b2, b3⟩ := nbits_bounds h0
  have h64 := nbits_le (n := hi) (k := 64) (by simpa using hh)
  unfold gth
  rw [e, if_neg (by omega), show 64 + nbits hi - 64 = 64 - g by omega]
  have hB : (18446744073709551616 : Nat) = 2 ^ g * 2 ^ (64 - g) := by
    rw [← Nat.pow_add, show g + (64 - g) = 64 by omega]
  have hp : 0 < 2 ^ (64 - g) := Nat.two_pow_pos _
  have hq : 0 < 2 ^ g := Nat.two_pow_pos _
  have e1 : (hi * 18446744073709551616 + lo) / 2 ^ (64 - g) = hi * 2 ^ g + lo / 2 ^ (64 - g) := by
    rw [hB, ← Nat.mul_assoc, Nat.mul_comm _ (2 ^ (64 - g)), Nat.mul_add_div hp]
  have e2 : (hi * 18446744073709551616 + lo) % 2 ^ (64 - g) = lo % 2 ^ (64 - g) := by
    rw [hB, ← Nat.mul_assoc, Nat.mul_comm _ (2 ^ (64 - g)), Nat.mul_add_mod]
  have e3 : lo * 2 ^ g % 18446744073709551616 = lo % 2 ^ (64 - g) * 2 ^ g := by
    rw [hB, Nat.mul_comm (2 ^ g) (2 ^ (64 - g)), Nat.mul_mod_mul_right]
  have e4 : (64 < 64 + nbits hi ∧ lo % 2 ^ (64 - g) ≠ 0) = (lo % 2 ^ (64 - g) * 2 ^ g ≠ 0) := by
    refine propext ⟨fun h hz => ?_, fun h => ⟨by omega, fun hz => h (by rw [hz, Nat.zero_mul])⟩⟩
    rcases Nat.mul_eq_zero.1 hz with h1 | h1
    · exact h.2 h1
    · omega
  rw [e1, e2, e3]
  refine ⟨by simp only [e4], by omega, ?_⟩
  have h1 : hi * 2 ^ g < 2 ^ nbits hi * 2 ^ g := Nat.mul_lt_mul_of_pos_right b3 hq
  rw [← Nat.pow_add, show nbits hi + g = 64 by omega] at h1
  exact h1
theorem or_below {a g y : Nat} (ha : a * 2 ^ g < 18446744073709551616) (hg : g ≤ 63) (hy : y < 18446744073709551616) : bits .or .u64 ((a * 2 ^ g : Nat) : Int) ((y / 2 ^ (64 - g) : Nat) : Int) = ((a * 2 ^ g + y / 2 ^ (64 - g) : Nat) : Int) := by
  have h1 : y / 2 ^ (64 - g) < 2 ^ g := by
    rw [Nat.div_lt_iff_lt_mul (Nat.two_pow_pos _), ← Nat.pow_add, show g + (64 - g) = 64 by omega]
    exact hy
  have h2 : y / 2 ^ (64 - g) ≤ y := Nat.div_le_self _ _
  rw [bits_or_u64_nat _ _ ha (by omega), Nat.mul_comm a, ← Nat.two_pow_add_eq_or_of_lt h1]
theorem shl_any (x p : Nat) : IntKind.u64.wrap ((x : Int) * 2 ^ p) = ((x * 2 ^ p % 18446744073709551616 : Nat) : Int) := by
  rw [IntKind.wrap_u64, show (x : Int) * 2 ^ p = ((x * 2 ^ p : Nat) : Int) by simp]
  omega
theorem pgather_lo {lo : Nat} {more : Bool} {w : World} (h0 : lo ≠ 0) (hl : (lo : Int) ≤ 18446744073709551615) :
    Calls Try.prog 119 #[.int .u64 0, .int .u64 (lo : Int), .bool more] w fun e w' => e = .returned (.int .u64 (gth lo more : Int)) ∧ ∃ k, w' = w.drewN k := by
  obtain ⟨b1, b2, b3⟩ := nbits_bounds h0
  have h64 := nbits_le (n := lo) (k := 64) (by omega)
  obtain ⟨g, hg⟩ : ∃ g, g = 64 - nbits lo := ⟨_, rfl⟩
  have hm : lo * 2 ^ g < 18446744073709551616 := by
    have h1 : lo * 2 ^ g < 2 ^ nbits lo * 2 ^ g := Nat.mul_lt_mul_of_pos_right b3 (Nat.two_pow_pos _)
    rw [← Nat.pow_add, show nbits lo + g = 64 by omega] at h1
    exact h1
  have hz := plz lo (by omega) w
  have hgt := gth_lo (lo := lo) (more := more) (by omega)
  rw [← hg] at hgt hz
  rw [hgt]
  have s1 := shl_any lo g
  rw [Nat.mod_eq_of_lt hm] at s1
  have ho := or_below (y := 0) hm (by omega) (by omega)
  rw [Nat.zero_div, Nat.add_zero] at ho
  replace ho : bits .or .u64 ((lo * 2 ^ g : Nat) : Int) 0 = ((lo * 2 ^ g : Nat) : Int) := ho
  have hon := or_one hm
  have g64 : (g : Int) ≤ 63 := by omega
  have d0 : ((lo : Int) == 0) = false := beq_eq_false_iff_ne.2 (by omega)
  clear b1 b2 b3 h64 hg hgt h0
  generalize lo * 2 ^ g = G at *
  have hst : stk G false = G := rfl
  have hG : stk G true ≤ 18446744073709551615 := by unfold stk; rw [if_pos rfl]; omega
  cases more
  · rw [hst]
    go_enter Try.func119, Try.ntmps119
    go_wp2_with fail
    refine hz.mono ?_
    rintro e w1 ⟨rfl, rfl⟩
    clear hz
    go_wp2
    go_quiet (fail)
    go_wp2
    go_ret
    exact ⟨ret_int (by first | rfl | simp only [*]), _, rfl⟩
  · generalize stk G true = S at *
    go_enter Try.func119, Try.ntmps119
    go_wp2_with fail
    refine hz.mono ?_
    rintro e w1 ⟨rfl, rfl⟩
    clear hz
    go_wp2
    go_quiet (fail)
    go_wp2
    go_ret
    exact ⟨ret_int (by first | rfl | simp only [*]), _, rfl⟩
theorem pgather_hi {hi lo : Nat} {more : Bool} {w : World} (h0 : hi ≠ 0) (hh : (hi : Int) ≤ 18446744073709551615) (hl : (lo : Int) ≤ 18446744073709551615) :
    Calls Try.prog 119 #[.int .u64 (hi : Int), .int .u64 (lo : Int), .bool more] w fun e w' => e = .returned (.int .u64 (gth (hi * 18446744073709551616 + lo) more : Int)) ∧ ∃ k, w' = w.drewN k := by
  obtain ⟨g, hg⟩ : ∃ g, g = 64 - nbits hi := ⟨_, rfl⟩
  obtain ⟨hgt, hg63, hm⟩ := gth_hi (more := more) h0 (by omega) (by omega : lo < 18446744073709551616) hg
  have hz := plz hi (by omega) w
  rw [← hg] at hz
  have hGl := gth_lt (N := hi * 18446744073709551616 + lo) true
  rw [hgt]
  have s1 := shl_any hi g
  rw [Nat.mod_eq_of_lt hm] at s1
  have s2 := shr_any (x := lo) (by omega) (64 - g)
  rw [Nat.min_eq_left (by omega)] at s2
  have s3 := shl_any lo g
  have ho := or_below (y := lo) hm hg63 (by omega)
  have h1 : lo / 2 ^ (64 - g) < 2 ^ g := by
    rw [Nat.div_lt_iff_lt_mul (Nat.two_pow_pos _), ← Nat.pow_add, show g + (64 - g) = 64 by omega]
    omega
  have hm2 : hi * 2 ^ g + lo / 2 ^ (64 - g) < 18446744073709551616 := by
    have h2 : hi < 2 ^ (64 - g) := by
      refine Nat.not_le.1 fun hle => ?_
      have := Nat.mul_le_mul_right (2 ^ g) hle
      rw [← Nat.pow_add, show 64 - g + g = 64 by omega] at this
      omega
    have h3 := Nat.mul_le_mul_right (2 ^ g) (show hi + 1 ≤ 2 ^ (64 - g) by omega)
    rw [← Nat.pow_add, show 64 - g + g = 64 by omega, Nat.add_mul] at h3
    omega
  have hon := or_one hm2
  have g64 : (g : Int) ≤ 63 := by omega
  have d0 : ((hi : Int) == 0) = false := beq_eq_false_iff_ne.2 (by omega)
  have h2' : lo / 2 ^ (64 - g) ≤ 18446744073709551615 := by
    have := Nat.div_le_self lo (2 ^ (64 - g))
    omega
  have h3' : lo * 2 ^ g % 18446744073709551616 ≤ 18446744073709551615 := by omega
  clear hg hgt h0 hg63 h1 hGl
  generalize lo * 2 ^ g % 18446744073709551616 = Z at *
  generalize lo / 2 ^ (64 - g) = Y at *
  generalize hi * 2 ^ g = X at *
  generalize X + Y = G at *
  have hst : stk G false = G := rfl
  have hG : stk G true ≤ 18446744073709551615 := by unfold stk; rw [if_pos rfl]; omega
  cases more
  · rw [Bool.false_or]
    by_cases hZ : Z = 0
    · subst hZ
      rw [decide_eq_false (by omega), hst]
      generalize stk G true = S at *
      go_enter Try.func119, Try.ntmps119
      go_wp2_with fail
      refine hz.mono ?_
      rintro e w1 ⟨rfl, rfl⟩
      clear hz
      go_wp2
      go_quiet (fail)
      go_wp2
      go_ret
      exact ⟨ret_int (by first | rfl | simp only [*]), _, rfl⟩
    · rw [decide_eq_true hZ]
      have d1 : ((Z : Int) == 0) = false := beq_eq_false_iff_ne.2 (by omega)
      have d2 : ((Z : Int) != 0) = true := by rw [bne, d1]; rfl
      clear hZ
      generalize stk G true = S at *
      go_enter Try.func119, Try.ntmps119
      go_wp2_with fail
      refine hz.mono ?_
      rintro e w1 ⟨rfl, rfl⟩
      clear hz
      go_wp2
      go_quiet (fail)
      go_wp2
      go_ret
      exact ⟨ret_int (by first | rfl | simp only [*]), _, rfl⟩
  · rw [Bool.true_or]
    generalize stk G true = S at *
    go_enter Try.func119, Try.ntmps119
    go_wp2_with fail
    refine hz.mono ?_
    rintro e w1 ⟨rfl, rfl⟩
    clear hz
    go_wp2
    go_quiet (fail)
    go_wp2
    go_ret
    exact ⟨ret_int (by first | rfl | simp only [*]), _, rfl⟩
theorem pgather {hi lo : Nat} {more : Bool} {w : World} (h0 : hi * 18446744073709551616 + lo ≠ 0) (hh : (hi : Int) ≤ 18446744073709551615) (hl : (lo : Int) ≤ 18446744073709551615) :
    Calls Try.prog 119 #[.int .u64 (hi : Int), .int .u64 (lo : Int), .bool more] w fun e w' => e = .returned (.int .u64 (gth (hi * 18446744073709551616 + lo) more : Int)) ∧ ∃ k, w' = w.drewN k := by
  by_cases h : hi = 0
  · subst h
    rw [Nat.zero_mul, Nat.zero_add]
    exact pgather_lo (by omega) hl
  · exact pgather_hi h hh hl
end Go.Proofs.Ytjapilpjahhimaa

/- parts: Round, Exact; what its calls keep. -/
namespace Go.Proofs.Ytjapilpjahhimaa
open Go.RowKit Go.Shelf

theorem below_same {w w' : World} (h : w = w') : Below w.heap.size w w' := h ▸ Below.refl _ _
theorem pclass {a : Nat} {w : World} (ha : (a : Int) ≤ 18446744073709551615) : Calls Try.prog 46 #[.int .u64 (a : Int)] w fun e W' => e = .returned (.int .i64 (cls a : Int)) ∧ Below w.heap.size w W' :=
  (pclass1 ha).mono fun _ _ ⟨h, k⟩ => ⟨h, below_same k⟩
theorem psplit_fin {a : Nat} {w : World} (ha : (a : Int) ≤ 18446744073709551615) (h : fe a ≠ 2047) : Calls Try.prog 105 #[.int .u64 (a : Int)] w fun e W' => e = .returned (.tuple #[.bool (neg6 a), .int .u64 (sig a : Int), .int .i64 (xpo a), .int .i64 0]) ∧ Below w.heap.size w W' :=
  (psplit_fin1 ha h).mono fun _ _ ⟨h, k⟩ => ⟨h, below_same k⟩
theorem psplit_inf {a : Nat} {w : World} (ha : (a : Int) ≤ 18446744073709551615) (h : fe a = 2047) : Calls Try.prog 105 #[.int .u64 (a : Int)] w fun e W' => e = .returned (.tuple #[.bool false, .int .u64 0, .int .i64 0, .int .i64 23]) ∧ Below w.heap.size w W' :=
  (psplit_inf1 ha h).mono fun _ _ ⟨h, k⟩ => ⟨h, below_same k⟩
theorem pinf (neg : Bool) (w : World) : Calls Try.prog 90 #[.bool neg] w fun e W' => e = .returned (.int .u64 (infB neg : Int)) ∧ Below w.heap.size w W' :=
  (pinf1 neg w).mono fun _ _ ⟨h, k⟩ => ⟨h, below_same k⟩
theorem pzero (neg : Bool) (w : World) : Calls Try.prog 92 #[.bool neg] w fun e W' => e = .returned (.int .u64 (sgn neg : Int)) ∧ Below w.heap.size w W' :=
  (pzero1 neg w).mono fun _ _ ⟨h, k⟩ => ⟨h, below_same k⟩

set_option maxRecDepth 100000 in
set_option maxHeartbeats 4000000 in
theorem pround {neg more : Bool} {hi lo : Nat} {exp mode : Int} {w : World} (hh : (hi : Int) ≤ 18446744073709551615) (hl : (lo : Int) ≤ 18446744073709551615) (h1 : -9223372036854775808 ≤ exp) (h2 : exp ≤ 9223372036854775807) :
    Calls Try.prog 107 #[.bool neg, .int .u64 (hi : Int), .int .u64 (lo : Int), .int .i64 exp, .bool more, .int .i64 mode] w fun e W' => e = .returned (.tuple #[.int .u64 ((prnd neg hi lo exp more mode).1 : Int), .int .i64 ((prnd neg hi lo exp more mode).2 : Int)]) ∧ Below w.heap.size w W' := by
  have hbo := pbits (w := w) hh hl
  by_cases hN0 : hi * 18446744073709551616 + lo = 0
  · have hz := pzero1 neg w
    unfold prnd
    rw [if_pos hN0]
    rw [hN0, nbits_zero] at hbo
    clear hN0
    go_enter Try.func107, Try.ntmps107
    go_wp2_with fail
    refine hbo.mono ?_
    rintro e w1 ⟨rfl, rfl⟩
    go_wp2_with fail
    refine hz.mono ?_
    rintro e w1 ⟨rfl, rfl⟩
    go_wp2
    go_ret2
    exact ⟨rfl, Below.refl _ _⟩
  · have hgat := fun (m : Bool) => pgather (more := m) (w := w) hN0 hh hl
    unfold prnd
    rw [if_neg hN0]
    have hcE : min (max exp (-16384)) 16384 = clampE exp := rfl
    have hc1 : -16384 ≤ clampE exp := by unfold clampE; omega
    have hc2 : clampE exp ≤ 16384 := by unfold clampE; omega
    have hbl := nbits_le (n := hi * 18446744073709551616 + lo) (k := 128) (by omega)
    have hN : 0 < hi * 18446744073709551616 + lo := by omega
    clear hN0
    generalize hi * 18446744073709551616 + lo = N at *
    generalize clampE exp = E at *
    have hb0 : nbits N ≠ 0 := fun h => by have := nbits_eq_zero h; omega
    obtain ⟨more', hm', hm'', hE⟩ : ∃ more' : Bool, (more' = true → 55 ≤ nbits N ∨ E ≤ -1080) ∧
        ((more = false ∧ more' = false) ∨ (more = true ∧ decide ((55 : Int) ≤ (nbits N : Int)) = true ∧ more' = true) ∨ (more = true ∧ decide ((55 : Int) ≤ (nbits N : Int)) = false ∧ decide (E ≤ -1080) = true ∧ more' = true) ∨ (more = true ∧ decide ((55 : Int) ≤ (nbits N : Int)) = false ∧ decide (E ≤ -1080) = false ∧ more' = false)) ∧
        (if more = true ∧ (55 ≤ nbits N ∨ E ≤ -1080) then rnd neg (2 * N + 1) 1 (E - 1) mode else rnd neg N 1 E mode) = (if more' = true then rnd neg (2 * N + 1) 1 (E - 1) mode else rnd neg N 1 E mode) := by
      cases more
      · exact ⟨false, by simp, .inl ⟨rfl, rfl⟩, by simp⟩
      · by_cases hb : 55 ≤ nbits N
        · exact ⟨true, fun _ => .inl hb, .inr (.inl ⟨rfl, decide_eq_true (by omega), rfl⟩), by rw [if_pos ⟨rfl, .inl hb⟩, if_pos rfl]⟩
        · by_cases he : E ≤ -1080
          · exact ⟨true, fun _ => .inr he, .inr (.inr (.inl ⟨rfl, decide_eq_false (by omega), decide_eq_true he, rfl⟩)), by rw [if_pos ⟨rfl, .inr he⟩, if_pos rfl]⟩
          · exact ⟨false, by simp, .inr (.inr (.inr ⟨rfl, decide_eq_false (by omega), decide_eq_false he, rfl⟩)), by rw [if_neg (by omega), if_neg Bool.false_ne_true]⟩
    rw [hE]
    clear hE
    obtain ⟨hR, hF1, hF2, hF3⟩ := rnd_gth (neg := neg) (mode := mode) more' hN hm'
    rw [hR]
    clear hR hm'
    replace hgat := hgat more'
    obtain ⟨c1, c2⟩ := cutAt_eq N E
    have hGl := gth_lt (N := N) more'
    have hx : max ((nbits N : Int) + E - 53) (-1074) = rx N E := rfl
    have hL := lef_le (gth N more' % 2 ^ cutAt N E) (2 ^ cutAt N E)
    generalize cutAt N E = n at *
    generalize rx N E = x at *
    have hct := fun (v : World) => pcut (x := gth N more') (n := n) (m := n - 1) (w := v) (by omega) (by omega) (by omega)
    generalize gth N more' / 2 ^ n = M at *
    generalize lef (gth N more' % 2 ^ n) (2 ^ n) = L at *
    generalize gth N more' = G at *
    generalize nbits N = b at *
    clear hN
    have d0 : ((b : Int) == 0) = false := beq_eq_false_iff_ne.2 (by omega)
    obtain ⟨top, htop⟩ : ∃ top : Int, top = E + (b : Int) - 1 := ⟨_, rfl⟩
    have ht : E + (b : Int) - 1 = top := htop.symm
    have hx2 : max (top - 52) (-1074) = x := by omega
    have hn2 : x - (top - 63) = (n : Int) := by omega
    have htiny : decide ((b : Int) + E ≤ -1022) = decide (top < -1022) := decide_eq_decide.2 (by omega)
    rw [htiny]
    have k1 : -16384 ≤ top := by omega
    have k2 : top ≤ 16511 := by omega
    have k3 : -1074 ≤ x := by omega
    have k4 : x ≤ 16459 := by omega
    have k5 : (b : Int) ≤ 128 := by omega
    have hlo := fun (v : World) => ploss (top := top) (w := v) hL
    have hgo := fun (v : World) => pgoes (neg := neg) (q := M) (mode := mode) (w := v) (by omega) hL
    have hbe := fun (v : World) => pbeyond (neg := neg) (mode := mode) (w := v)
    have hzo := fun (v : World) => pzero1 neg v
    unfold told
    generalize decide (top < -1022) = tiny at *
    generalize flg L tiny = fl at *
    generalize goes neg mode M L = go at *
    clear htiny hx c1 c2 hb0 hbl htop hL hGl
    obtain ⟨X, hX⟩ : ∃ X : Nat, x = (X : Int) - 1074 := ⟨(x + 1074).toNat, by omega⟩
    have hXn : (x + 1074).toNat = X := by omega
    rw [hXn]
    have kM : M ≤ 9007199254740991 := by omega
    obtain ⟨q1, V, hq1, hq2, hV⟩ : ∃ (q1 : Nat) (V : Int), q1 = (if go = true then M + 1 else M) ∧
        ((go = true ∧ IntKind.u64.wrap (IntKind.u64.wrap ((x + 1074) * 4503599627370496) + IntKind.u64.wrap ((M : Int) + 1)) = V) ∨ (go = false ∧ IntKind.u64.wrap (IntKind.u64.wrap ((x + 1074) * 4503599627370496) + (M : Int)) = V)) ∧
        (X ≤ 2045 → V = ((X * 4503599627370496 + q1 : Nat) : Int) ∧ q1 ≤ 9007199254740992 ∧ M ≤ q1) := by
      simp only [IntKind.wrap_u64]
      cases go
      · exact ⟨M, _, rfl, .inr ⟨rfl, rfl⟩, by omega⟩
      · exact ⟨M + 1, _, rfl, .inl ⟨rfl, rfl⟩, by omega⟩
    have hMq : M ≤ q1 := by rw [hq1]; split <;> omega
    rw [← hq1]
    clear hq1
    obtain ⟨P, hP⟩ : ∃ P : Nat × Nat, P = (if 9218868437227405312 ≤ X * 4503599627370496 + q1 then rbig neg mode else (sgn neg + (X * 4503599627370496 + q1), fl)) := ⟨_, rfl⟩
    rw [← hP]
    have hcase : (decide ((971 : Int) < x) = true ∧ P = rbig neg mode) ∨ (decide ((971 : Int) < x) = false ∧ decide (9218868437227405312 ≤ V) = true ∧ P = rbig neg mode) ∨ (decide ((971 : Int) < x) = false ∧ decide (9218868437227405312 ≤ V) = false ∧ bits .or .u64 (sgn neg : Int) V = (P.1 : Int) ∧ P.2 = fl) := by
      by_cases h : (971 : Int) < x
      · rw [if_pos (by omega)] at hP
        exact .inl ⟨decide_eq_true h, hP⟩
      · obtain ⟨v1, v2, v3⟩ := hV (by omega)
        by_cases h' : 9218868437227405312 ≤ X * 4503599627370496 + q1
        · rw [if_pos h'] at hP
          exact .inr (.inl ⟨decide_eq_false h, decide_eq_true (by omega), hP⟩)
        · rw [if_neg h'] at hP
          have ho := or_sign neg (q := X * 4503599627370496 + q1) (by omega)
          rw [← v1] at ho
          rw [hP]
          exact .inr (.inr ⟨decide_eq_false h, decide_eq_false (by omega), ho, rfl⟩)
    have hr20 : ((rbig neg mode).2 : Int) = 20 := by rw [rbig_goes]; rfl
    clear hF1 hF2 hF3 hXn hX hP hV hMq kM
    obtain ⟨P1, P2⟩ := P
    generalize rbig neg mode = R at *
    obtain ⟨R1, R2⟩ := R
    dsimp only at hcase hr20 hbe ⊢
    rcases hm'' with ⟨rfl, rfl⟩ | ⟨rfl, d1, rfl⟩ | ⟨rfl, d1, d2, rfl⟩ | ⟨rfl, d1, d2, rfl⟩
    all_goals
      go_enter Try.func107, Try.ntmps107
      go_wp2_with fail
      refine hbo.mono ?_
      rintro e w1 ⟨rfl, rfl⟩
      go_wp2_with fail
      refine hgat.mono ?_
      rintro e w1 ⟨rfl, k, rfl⟩
      clear hx2 ht
      go_wp2_with fail
      refine (hct _).mono ?_
      rintro e w1 ⟨rfl, rfl⟩
      clear hn2
      go_wp2_with fail
      refine (hgo _).mono ?_
      rintro e w1 ⟨rfl, rfl⟩
      clear hbo hgat hct hgo
      have bD : Below w.heap.size w (w.drewN k) := below_drewN _ _ _
      rcases hq2 with ⟨rfl, hV⟩ | ⟨rfl, hV⟩
      all_goals
        go_upto_region 12 with (fail)
        try rw [hV]
        clear hV
        rcases hcase with ⟨e1, e2⟩ | ⟨e1, e2, e3⟩ | ⟨e1, e2, e3, e4⟩
        · simp only [Prod.mk.injEq] at e2
          obtain ⟨rfl, rfl⟩ := e2
          go_wp2_with fail
          refine (hbe _).mono ?_
          rintro e w1 ⟨rfl, rfl⟩
          go_wp2
          go_ret2
          rw [hr20]
          exact ⟨rfl, bD⟩
        · simp only [Prod.mk.injEq] at e3
          obtain ⟨rfl, rfl⟩ := e3
          go_wp2_with fail
          refine (hbe _).mono ?_
          rintro e w1 ⟨rfl, rfl⟩
          go_wp2
          go_ret2
          rw [hr20]
          exact ⟨rfl, bD⟩
        · subst e4
          go_wp2_with fail
          refine (hzo _).mono ?_
          rintro e w1 ⟨rfl, rfl⟩
          go_wp2_with fail
          refine (hlo _).mono ?_
          rintro e w1 ⟨rfl, rfl⟩
          go_wp2
          go_ret2
          rw [← e3]
          exact ⟨rfl, bD⟩
end Go.Proofs.Ytjapilpjahhimaa
