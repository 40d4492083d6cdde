/- vernierref06.sum and Add: the exact sum, rounded. -/
import Derived.Test.YtgobclmihppopabRefRound
import Derived.Test.YtgobclmihppopabRndOne
namespace Go.Proofs.Ytgobclmihppopab
open Go.RowKit Go.Shelf

/-- a number and its sign -/
def sv (neg : Bool) (m : Nat) : Int := if neg then -(m : Int) else m
/-- the sum of m times 2^p and k times 2^q, each with its sign, rounded -/
def ssum (neg : Bool) (m : Nat) (p : Int) (other : Bool) (k : Nat) (q : Int) : Int := sv neg (upper m (p - min p q)) + sv other (upper k (q - min p q))
def rsum (neg : Bool) (m : Nat) (p : Int) (other : Bool) (k : Nat) (q mode : Int) : Nat × Nat :=
  if ssum neg m p other k q = 0 then (if neg = other then (sgn neg, 0) else (sgn (decide (mode = 4)), 0))
  else rnd (decide (ssum neg m p other k q < 0)) (ssum neg m p other k q).natAbs 1 (min p q) mode
def nanB : Nat := 9221120237041090560
def radd (a b : Nat) (mode : Int) : Nat × Nat :=
  if cls a = 3 ∨ cls b = 3 then (9221120237041090560, 0)
  else if cls a = 2 ∧ cls b = 2 ∧ a ≠ b then (9221120237041090560, 1)
  else if cls a = 2 then (a, 0) else if cls b = 2 then (b, 0)
  else rsum (neg6 a) (sig a) (xpo a) (neg6 b) (sig b) (xpo b) mode
theorem one6 (w : World) : Calls Try.prog 49 #[] w fun e W' => ∃ v, e = .returned v ∧ RN W' v 1 1 ∧ Below w.heap.size w W' := by
  have h := rn_one w 1 (by decide) (by decide)
  have b := (Below.refl w.heap.size w).alloc (Nat.le_refl _) (.cells #[.int .i64 1] 3)
  go_enter Try.func49, Try.ntmps49
  go_wp2
  go_ret
  exact ⟨_, rfl, h, b⟩
theorem digs_len06 (R : Nat) : ((digs 65536 R).length = 0) = (R = 0) := by
  by_cases h : R = 0
  · subst h; rw [digs_zero]; simp
  · rw [digs_pos (by decide) h]; simp [h]
theorem dist_lt' {U V : Nat} (h : U < V) : dist U V = V - U := by unfold dist; omega
set_option maxRecDepth 100000 in
set_option maxHeartbeats 8000000 in
theorem sum6 {va vb : Value} {m k i j : Nat} {p q mode : Int} {neg other : Bool} {w : World} (hA : RN w va m i) (hB : RN w vb k j) (hi : i ≤ 40) (hj : j ≤ 40) (p1 : -20000 ≤ p) (p2 : p ≤ 20000) (q1 : -20000 ≤ q) (q2 : q ≤ 20000) :
    Calls Try.prog 57 #[.bool neg, va, .int .i64 p, .bool other, vb, .int .i64 q, .int .i64 mode] w fun e W' => e = .returned (.tuple #[.int .u64 ((rsum neg m p other k q mode).1 : Int), .int .i64 ((rsum neg m p other k q mode).2 : Int)]) ∧ Below w.heap.size w W' := by
  obtain ⟨P, hP⟩ : ∃ P, P = rsum neg m p other k q mode := ⟨_, rfl⟩
  rw [← hP]
  unfold rsum ssum at hP
  obtain ⟨E, hE⟩ : ∃ E, E = min p q := ⟨_, rfl⟩
  rw [← hE] at hP
  obtain ⟨d1, hd1⟩ : ∃ d : Nat, p - E = d := ⟨(p - E).toNat, by omega⟩
  obtain ⟨d2, hd2⟩ : ∃ d : Nat, q - E = d := ⟨(q - E).toNat, by omega⟩
  rw [hd1, hd2, upper_nat, upper_nat] at hP
  have hd1' : d1 ≤ 40000 := by omega
  have hd2' : d2 ≤ 40000 := by omega
  have hE1 : -20000 ≤ E := by omega
  have hE2 : E ≤ 20000 := by omega
  have HE := Lib.hid hE
  have HP := Lib.hid hP
  have HD1 := Lib.hid hd1
  have HD2 := Lib.hid hd2
  have hs1 := rshl_num (m := d1) hA (by omega) (by omega)
  obtain ⟨xa, xc, rfl, hxc⟩ := hA.slice
  obtain ⟨ya, yc, rfl, hyc⟩ := hB.slice
  clear hxc hyc hP hE hd1 hd2 hA
  go_enter Try.func57, Try.ntmps57
  go_wp2_with fail
  rw [← HE.out, HD1.out]
  refine hs1.mono ?_
  rintro e w1 ⟨v1, rfl, r1, b1⟩
  have hs2 := rshl_num (m := d2) (hB.behind b1) (by omega) (by omega)
  clear hs1 hB
  go_wp2_with fail
  rw [HD2.out]
  refine hs2.mono ?_
  rintro e w2 ⟨v2, rfl, r2, b2⟩
  clear hs2
  replace r1 := r1.behind b2
  replace b1 := below_both b1 b2
  clear b2
  generalize m * 2 ^ d1 = U at *
  generalize k * 2 ^ d2 = V at *
  obtain ⟨n29, hn29⟩ : ∃ n, n = 2999 := ⟨_, rfl⟩
  replace r1 := r1.le (k' := n29) (by omega)
  replace r2 := r2.le (k' := n29) (by omega)
  have hUV : U + V < 65536 ^ (n29 + 1) := by
    have h1 := r1.2
    have h2 := r2.2
    rw [Nat.pow_succ]
    omega
  have hN29 : n29 ≤ 2999 := by omega
  have HUV := Lib.hid hUV
  have hn1 : 1 ≤ n29 := by omega
  clear hUV hn29
  obtain ⟨xa', xc', rfl, hxc⟩ := r1.slice
  obtain ⟨ya', yc', rfl, hyc⟩ := r2.slice
  clear hxc hyc
  go_wp2_with fail
  refine (raddk (k := n29 + 1) r1 r2 (by omega) (by omega) HUV.out).mono ?_
  rintro e w3 ⟨v3, rfl, r3, b2⟩
  replace r1 := r1.behind b2
  replace r2 := r2.behind b2
  replace b1 := below_both b1 b2
  clear b2
  obtain ⟨za, zc, rfl, hzc⟩ := r3.slice
  clear hzc
  cases neg
  · cases other
    · clear r1 r2 HUV
      have hl := digs_len06 (U + V)
      by_cases h0 : U + V = 0
      · have hp := HP.out
        rw [if_pos (by simp [sv]; omega)] at hp
        have hl0 : (digs 65536 (U + V)).length = 0 := by rw [hl]; exact h0
        have HL0 := Lib.hid hl0
        generalize (digs 65536 (U + V)).length = L at *
        obtain rfl := HL0.out
        clear hl h0 hl0
        rw [if_pos rfl] at hp
        subst hp
        go_wp2_with fail
        refine (zero6 false _).mono ?_
        rintro e w5 ⟨rfl, rfl⟩
        go_wp2
        go_ret2
        exact ⟨rfl, b1⟩
      · have hp := HP.out
        have hl0 : ¬ (digs 65536 (U + V)).length = 0 := by rw [hl]; exact h0
        rw [if_neg (by simp [sv]; omega)] at hp
        have hnp : 0 < U + V := Nat.pos_of_ne_zero h0
        have hp2 : P = rnd false (U + V) 1 E mode := by
          have s1 : sv false U + sv false V = (if false then -((U + V : Nat) : Int) else ((U + V : Nat) : Int)) := by simp [sv] <;> omega
          rw [hp, s1]
          have s2 : (if false then -((U + V : Nat) : Int) else ((U + V : Nat) : Int)).natAbs = U + V := by simp <;> omega
          have s3 : decide ((if false then -((U + V : Nat) : Int) else ((U + V : Nat) : Int)) < 0) = false := by first | exact decide_eq_true (by simp <;> omega) | exact decide_eq_false (by simp <;> omega)
          rw [s2, s3]
        have hP2 := Lib.hid hp2
        generalize (digs 65536 (U + V)).length = L at *
        clear hl h0 hp hp2
        go_wp2_with fail
        refine (one6 _).mono ?_
        rintro e w5 ⟨v5, rfl, r5, b2⟩
        replace r3 := r3.behind b2
        replace b1 := below_both b1 b2
        clear b2
        go_wp2_with fail
        refine (rround_num (neg := false) (mode := mode) r3 r5 hnp (by decide) (by omega) (by omega) (by omega) (by omega) (by omega) (by omega)).mono ?_
        rintro e w6 ⟨rfl, b2⟩
        rw [← hP2.out]
        go_wp2
        go_ret2
        exact ⟨rfl, below_both b1 b2⟩
    · skip
      have hsb := rsub_num r1 r2 (by omega) (by omega)
      go_wp2_with fail
      refine hsb.mono ?_
      rintro e w4 ⟨v4, rfl, r4, b2⟩
      replace r1 := r1.behind b2
      replace r2 := r2.behind b2
      replace b1 := below_both b1 b2
      clear b2 hsb r3
      replace r4 := r4.re (k' := n29) (by have h1 := r1.2; have h2 := r2.2; unfold dist; omega)
      obtain ⟨za', zc', rfl, hzc⟩ := r4.slice
      clear hzc
      by_cases hlt : U < V
      · have HC : Hid (cmpN U V = -1) := Lib.hid (cmpN_lt hlt)
        have hdd : dist U V = V - U := dist_lt' hlt
        rw [hdd] at r4 ⊢
        go_wp2_with fail
        refine (rcmpc r1 r2 (by omega) (by omega) HC.out).mono ?_
        rintro e w8 ⟨rfl, b2⟩
        replace r4 := r4.behind b2
        replace b1 := below_both b1 b2
        clear b2 r1 r2 HC hdd HUV
        have hl := digs_len06 (V - U)
        by_cases h0 : V - U = 0
        · have hp := HP.out
          rw [if_pos (by simp [sv]; omega)] at hp
          have hl0 : (digs 65536 (V - U)).length = 0 := by rw [hl]; exact h0
          have HL0 := Lib.hid hl0
          generalize (digs 65536 (V - U)).length = L at *
          obtain rfl := HL0.out
          clear hl h0 hl0
          rw [if_neg (by decide)] at hp
          by_cases h4 : mode = 4
          · subst h4
            subst hp
            go_wp2_with fail
            refine (zero6 true _).mono ?_
            rintro e w5 ⟨rfl, rfl⟩
            go_wp2
            go_ret2
            exact ⟨rfl, b1⟩
          · have hb4 : (mode == 4) = false := by simp [h4]
            rw [decide_eq_false h4] at hp
            subst hp
            clear h4
            go_wp2_with fail
            refine (zero6 false _).mono ?_
            rintro e w5 ⟨rfl, rfl⟩
            go_wp2
            go_ret2
            exact ⟨rfl, b1⟩
        · have hp := HP.out
          have hl0 : ¬ (digs 65536 (V - U)).length = 0 := by rw [hl]; exact h0
          rw [if_neg (by simp [sv]; omega)] at hp
          have hnp : 0 < V - U := Nat.pos_of_ne_zero h0
          have hp2 : P = rnd true (V - U) 1 E mode := by
            have s1 : sv false U + sv true V = (if true then -((V - U : Nat) : Int) else ((V - U : Nat) : Int)) := by simp [sv] <;> omega
            rw [hp, s1]
            have s2 : (if true then -((V - U : Nat) : Int) else ((V - U : Nat) : Int)).natAbs = V - U := by simp <;> omega
            have s3 : decide ((if true then -((V - U : Nat) : Int) else ((V - U : Nat) : Int)) < 0) = true := by first | exact decide_eq_true (by simp <;> omega) | exact decide_eq_false (by simp <;> omega)
            rw [s2, s3]
          have hP2 := Lib.hid hp2
          generalize (digs 65536 (V - U)).length = L at *
          clear hl h0 hp hp2
          go_wp2_with fail
          refine (one6 _).mono ?_
          rintro e w5 ⟨v5, rfl, r5, b2⟩
          replace r4 := r4.behind b2
          replace b1 := below_both b1 b2
          clear b2
          go_wp2_with fail
          refine (rround_num (neg := true) (mode := mode) r4 r5 hnp (by decide) (by omega) (by omega) (by omega) (by omega) (by omega) (by omega)).mono ?_
          rintro e w6 ⟨rfl, b2⟩
          rw [← hP2.out]
          go_wp2
          go_ret2
          exact ⟨rfl, below_both b1 b2⟩
      · obtain ⟨c, HC, hc⟩ : ∃ c, Hid (cmpN U V = c) ∧ 0 ≤ c := by
          refine ⟨_, Lib.hid rfl, ?_⟩
          unfold cmpN
          rw [if_neg hlt]
          split <;> omega
        have hdd : dist U V = U - V := dist_ge (by omega)
        rw [hdd] at r4 ⊢
        go_wp2_with fail
        refine (rcmpc r1 r2 (by omega) (by omega) HC.out).mono ?_
        rintro e w8 ⟨rfl, b2⟩
        replace r4 := r4.behind b2
        replace b1 := below_both b1 b2
        clear b2 r1 r2 HC hdd HUV
        have hl := digs_len06 (U - V)
        by_cases h0 : U - V = 0
        · have hp := HP.out
          rw [if_pos (by simp [sv]; omega)] at hp
          have hl0 : (digs 65536 (U - V)).length = 0 := by rw [hl]; exact h0
          have HL0 := Lib.hid hl0
          generalize (digs 65536 (U - V)).length = L at *
          obtain rfl := HL0.out
          clear hl h0 hl0
          rw [if_neg (by decide)] at hp
          by_cases h4 : mode = 4
          · subst h4
            subst hp
            go_wp2_with fail
            refine (zero6 true _).mono ?_
            rintro e w5 ⟨rfl, rfl⟩
            go_wp2
            go_ret2
            exact ⟨rfl, b1⟩
          · have hb4 : (mode == 4) = false := by simp [h4]
            rw [decide_eq_false h4] at hp
            subst hp
            clear h4
            go_wp2_with fail
            refine (zero6 false _).mono ?_
            rintro e w5 ⟨rfl, rfl⟩
            go_wp2
            go_ret2
            exact ⟨rfl, b1⟩
        · have hp := HP.out
          have hl0 : ¬ (digs 65536 (U - V)).length = 0 := by rw [hl]; exact h0
          rw [if_neg (by simp [sv]; omega)] at hp
          have hnp : 0 < U - V := Nat.pos_of_ne_zero h0
          have hp2 : P = rnd false (U - V) 1 E mode := by
            have s1 : sv false U + sv true V = (if false then -((U - V : Nat) : Int) else ((U - V : Nat) : Int)) := by simp [sv] <;> omega
            rw [hp, s1]
            have s2 : (if false then -((U - V : Nat) : Int) else ((U - V : Nat) : Int)).natAbs = U - V := by simp <;> omega
            have s3 : decide ((if false then -((U - V : Nat) : Int) else ((U - V : Nat) : Int)) < 0) = false := by first | exact decide_eq_true (by simp <;> omega) | exact decide_eq_false (by simp <;> omega)
            rw [s2, s3]
          have hP2 := Lib.hid hp2
          generalize (digs 65536 (U - V)).length = L at *
          clear hl h0 hp hp2
          go_wp2_with fail
          refine (one6 _).mono ?_
          rintro e w5 ⟨v5, rfl, r5, b2⟩
          replace r4 := r4.behind b2
          replace b1 := below_both b1 b2
          clear b2
          go_wp2_with fail
          refine (rround_num (neg := false) (mode := mode) r4 r5 hnp (by decide) (by omega) (by omega) (by omega) (by omega) (by omega) (by omega)).mono ?_
          rintro e w6 ⟨rfl, b2⟩
          rw [← hP2.out]
          go_wp2
          go_ret2
          exact ⟨rfl, below_both b1 b2⟩
  · cases other
    · skip
      have hsb := rsub_num r1 r2 (by omega) (by omega)
      go_wp2_with fail
      refine hsb.mono ?_
      rintro e w4 ⟨v4, rfl, r4, b2⟩
      replace r1 := r1.behind b2
      replace r2 := r2.behind b2
      replace b1 := below_both b1 b2
      clear b2 hsb r3
      replace r4 := r4.re (k' := n29) (by have h1 := r1.2; have h2 := r2.2; unfold dist; omega)
      obtain ⟨za', zc', rfl, hzc⟩ := r4.slice
      clear hzc
      by_cases hlt : U < V
      · have HC : Hid (cmpN U V = -1) := Lib.hid (cmpN_lt hlt)
        have hdd : dist U V = V - U := dist_lt' hlt
        rw [hdd] at r4 ⊢
        go_wp2_with fail
        refine (rcmpc r1 r2 (by omega) (by omega) HC.out).mono ?_
        rintro e w8 ⟨rfl, b2⟩
        replace r4 := r4.behind b2
        replace b1 := below_both b1 b2
        clear b2 r1 r2 HC hdd HUV
        have hl := digs_len06 (V - U)
        by_cases h0 : V - U = 0
        · have hp := HP.out
          rw [if_pos (by simp [sv]; omega)] at hp
          have hl0 : (digs 65536 (V - U)).length = 0 := by rw [hl]; exact h0
          have HL0 := Lib.hid hl0
          generalize (digs 65536 (V - U)).length = L at *
          obtain rfl := HL0.out
          clear hl h0 hl0
          rw [if_neg (by decide)] at hp
          by_cases h4 : mode = 4
          · subst h4
            subst hp
            go_wp2_with fail
            refine (zero6 true _).mono ?_
            rintro e w5 ⟨rfl, rfl⟩
            go_wp2
            go_ret2
            exact ⟨rfl, b1⟩
          · have hb4 : (mode == 4) = false := by simp [h4]
            rw [decide_eq_false h4] at hp
            subst hp
            clear h4
            go_wp2_with fail
            refine (zero6 false _).mono ?_
            rintro e w5 ⟨rfl, rfl⟩
            go_wp2
            go_ret2
            exact ⟨rfl, b1⟩
        · have hp := HP.out
          have hl0 : ¬ (digs 65536 (V - U)).length = 0 := by rw [hl]; exact h0
          rw [if_neg (by simp [sv]; omega)] at hp
          have hnp : 0 < V - U := Nat.pos_of_ne_zero h0
          have hp2 : P = rnd false (V - U) 1 E mode := by
            have s1 : sv true U + sv false V = (if false then -((V - U : Nat) : Int) else ((V - U : Nat) : Int)) := by simp [sv] <;> omega
            rw [hp, s1]
            have s2 : (if false then -((V - U : Nat) : Int) else ((V - U : Nat) : Int)).natAbs = V - U := by simp <;> omega
            have s3 : decide ((if false then -((V - U : Nat) : Int) else ((V - U : Nat) : Int)) < 0) = false := by first | exact decide_eq_true (by simp <;> omega) | exact decide_eq_false (by simp <;> omega)
            rw [s2, s3]
          have hP2 := Lib.hid hp2
          generalize (digs 65536 (V - U)).length = L at *
          clear hl h0 hp hp2
          go_wp2_with fail
          refine (one6 _).mono ?_
          rintro e w5 ⟨v5, rfl, r5, b2⟩
          replace r4 := r4.behind b2
          replace b1 := below_both b1 b2
          clear b2
          go_wp2_with fail
          refine (rround_num (neg := false) (mode := mode) r4 r5 hnp (by decide) (by omega) (by omega) (by omega) (by omega) (by omega) (by omega)).mono ?_
          rintro e w6 ⟨rfl, b2⟩
          rw [← hP2.out]
          go_wp2
          go_ret2
          exact ⟨rfl, below_both b1 b2⟩
      · obtain ⟨c, HC, hc⟩ : ∃ c, Hid (cmpN U V = c) ∧ 0 ≤ c := by
          refine ⟨_, Lib.hid rfl, ?_⟩
          unfold cmpN
          rw [if_neg hlt]
          split <;> omega
        have hdd : dist U V = U - V := dist_ge (by omega)
        rw [hdd] at r4 ⊢
        go_wp2_with fail
        refine (rcmpc r1 r2 (by omega) (by omega) HC.out).mono ?_
        rintro e w8 ⟨rfl, b2⟩
        replace r4 := r4.behind b2
        replace b1 := below_both b1 b2
        clear b2 r1 r2 HC hdd HUV
        have hl := digs_len06 (U - V)
        by_cases h0 : U - V = 0
        · have hp := HP.out
          rw [if_pos (by simp [sv]; omega)] at hp
          have hl0 : (digs 65536 (U - V)).length = 0 := by rw [hl]; exact h0
          have HL0 := Lib.hid hl0
          generalize (digs 65536 (U - V)).length = L at *
          obtain rfl := HL0.out
          clear hl h0 hl0
          rw [if_neg (by decide)] at hp
          by_cases h4 : mode = 4
          · subst h4
            subst hp
            go_wp2_with fail
            refine (zero6 true _).mono ?_
            rintro e w5 ⟨rfl, rfl⟩
            go_wp2
            go_ret2
            exact ⟨rfl, b1⟩
          · have hb4 : (mode == 4) = false := by simp [h4]
            rw [decide_eq_false h4] at hp
            subst hp
            clear h4
            go_wp2_with fail
            refine (zero6 false _).mono ?_
            rintro e w5 ⟨rfl, rfl⟩
            go_wp2
            go_ret2
            exact ⟨rfl, b1⟩
        · have hp := HP.out
          have hl0 : ¬ (digs 65536 (U - V)).length = 0 := by rw [hl]; exact h0
          rw [if_neg (by simp [sv]; omega)] at hp
          have hnp : 0 < U - V := Nat.pos_of_ne_zero h0
          have hp2 : P = rnd true (U - V) 1 E mode := by
            have s1 : sv true U + sv false V = (if true then -((U - V : Nat) : Int) else ((U - V : Nat) : Int)) := by simp [sv] <;> omega
            rw [hp, s1]
            have s2 : (if true then -((U - V : Nat) : Int) else ((U - V : Nat) : Int)).natAbs = U - V := by simp <;> omega
            have s3 : decide ((if true then -((U - V : Nat) : Int) else ((U - V : Nat) : Int)) < 0) = true := by first | exact decide_eq_true (by simp <;> omega) | exact decide_eq_false (by simp <;> omega)
            rw [s2, s3]
          have hP2 := Lib.hid hp2
          generalize (digs 65536 (U - V)).length = L at *
          clear hl h0 hp hp2
          go_wp2_with fail
          refine (one6 _).mono ?_
          rintro e w5 ⟨v5, rfl, r5, b2⟩
          replace r4 := r4.behind b2
          replace b1 := below_both b1 b2
          clear b2
          go_wp2_with fail
          refine (rround_num (neg := true) (mode := mode) r4 r5 hnp (by decide) (by omega) (by omega) (by omega) (by omega) (by omega) (by omega)).mono ?_
          rintro e w6 ⟨rfl, b2⟩
          rw [← hP2.out]
          go_wp2
          go_ret2
          exact ⟨rfl, below_both b1 b2⟩
    · clear r1 r2 HUV
      have hl := digs_len06 (U + V)
      by_cases h0 : U + V = 0
      · have hp := HP.out
        rw [if_pos (by simp [sv]; omega)] at hp
        have hl0 : (digs 65536 (U + V)).length = 0 := by rw [hl]; exact h0
        have HL0 := Lib.hid hl0
        generalize (digs 65536 (U + V)).length = L at *
        obtain rfl := HL0.out
        clear hl h0 hl0
        rw [if_pos rfl] at hp
        subst hp
        go_wp2_with fail
        refine (zero6 true _).mono ?_
        rintro e w5 ⟨rfl, rfl⟩
        go_wp2
        go_ret2
        exact ⟨rfl, b1⟩
      · have hp := HP.out
        have hl0 : ¬ (digs 65536 (U + V)).length = 0 := by rw [hl]; exact h0
        rw [if_neg (by simp [sv]; omega)] at hp
        have hnp : 0 < U + V := Nat.pos_of_ne_zero h0
        have hp2 : P = rnd true (U + V) 1 E mode := by
          have s1 : sv true U + sv true V = (if true then -((U + V : Nat) : Int) else ((U + V : Nat) : Int)) := by simp [sv] <;> omega
          rw [hp, s1]
          have s2 : (if true then -((U + V : Nat) : Int) else ((U + V : Nat) : Int)).natAbs = U + V := by simp <;> omega
          have s3 : decide ((if true then -((U + V : Nat) : Int) else ((U + V : Nat) : Int)) < 0) = true := by first | exact decide_eq_true (by simp <;> omega) | exact decide_eq_false (by simp <;> omega)
          rw [s2, s3]
        have hP2 := Lib.hid hp2
        generalize (digs 65536 (U + V)).length = L at *
        clear hl h0 hp hp2
        go_wp2_with fail
        refine (one6 _).mono ?_
        rintro e w5 ⟨v5, rfl, r5, b2⟩
        replace r3 := r3.behind b2
        replace b1 := below_both b1 b2
        clear b2
        go_wp2_with fail
        refine (rround_num (neg := true) (mode := mode) r3 r5 hnp (by decide) (by omega) (by omega) (by omega) (by omega) (by omega) (by omega)).mono ?_
        rintro e w6 ⟨rfl, b2⟩
        rw [← hP2.out]
        go_wp2
        go_ret2
        exact ⟨rfl, below_both b1 b2⟩
theorem sig_lt06 (a : Nat) : sig a < 18446744073709551616 := by
  have h := ff_lt a
  unfold sig
  split <;> omega
theorem xpo_range06 (a : Nat) : -1074 ≤ xpo a ∧ xpo a ≤ 972 := by
  have h := fe_lt a
  unfold xpo
  split <;> omega
set_option maxRecDepth 100000 in
set_option maxHeartbeats 8000000 in
theorem add6 {a b : Nat} {mode : Int} {w : World} (ha : (a : Int) ≤ 18446744073709551615) (hb : (b : Int) ≤ 18446744073709551615) :
    Calls Try.prog 21 #[.int .u64 (a : Int), .int .u64 (b : Int), .int .i64 mode] w fun e W' => e = .returned (.tuple #[.int .u64 ((radd a b mode).1 : Int), .int .i64 ((radd a b mode).2 : Int)]) ∧ Below w.heap.size w W' := by
  obtain ⟨P, hP⟩ : ∃ P, P = radd a b mode := ⟨_, rfl⟩
  rw [← hP]
  unfold radd at hP
  have hA := fun w => class6 (W := w) ha
  have hB := fun w => class6 (W := w) hb
  by_cases a3 : cls a = 3
  · rw [a3] at hA
    rw [if_pos (.inl a3)] at hP
    subst hP
    by_cases b3 : cls b = 3
    · rw [b3] at hB
      clear a3 b3
      go_enter Try.func21, Try.ntmps21
      go_wp2_with fail
      refine (hA _).mono ?_
      rintro e w1 ⟨rfl, rfl⟩
      go_wp2_with fail
      refine (hB _).mono ?_
      rintro e w2 ⟨rfl, rfl⟩
      go_wp2
      go_ret2
      exact ⟨rfl, Below.refl _ _⟩
    · have hb2 : ¬ (cls b : Int) = 3 := by omega
      generalize cls b = y at *
      clear a3 b3
      go_enter Try.func21, Try.ntmps21
      go_wp2_with fail
      refine (hA _).mono ?_
      rintro e w1 ⟨rfl, rfl⟩
      go_wp2_with fail
      refine (hB _).mono ?_
      rintro e w2 ⟨rfl, rfl⟩
      go_wp2
      go_ret2
      exact ⟨rfl, Below.refl _ _⟩
  · by_cases b3 : cls b = 3
    · rw [b3] at hB
      rw [if_pos (.inr b3)] at hP
      subst hP
      have hx : ¬ (cls a : Int) = 3 := by omega
      have hxb : ((cls a : Int) == 3) = false := by simp; omega
      generalize cls a = x at *
      clear a3 b3
      go_enter Try.func21, Try.ntmps21
      go_wp2_with fail
      refine (hA _).mono ?_
      rintro e w1 ⟨rfl, rfl⟩
      go_wp2_with fail
      refine (hB _).mono ?_
      rintro e w2 ⟨rfl, rfl⟩
      go_wp2
      go_ret2
      exact ⟨rfl, Below.refl _ _⟩
    · rw [if_neg (by omega)] at hP
      by_cases a2 : cls a = 2
      · rw [a2] at hA
        by_cases b2 : cls b = 2
        · rw [b2] at hB
          by_cases hab : a = b
          · subst hab
            rw [if_neg (by omega), if_pos a2] at hP
            subst hP
            clear a2 b2 a3 b3
            go_enter Try.func21, Try.ntmps21
            go_wp2_with fail
            refine (hA _).mono ?_
            rintro e w1 ⟨rfl, rfl⟩
            go_wp2_with fail
            refine (hB _).mono ?_
            rintro e w2 ⟨rfl, rfl⟩
            go_wp2
            go_ret2
            exact ⟨rfl, Below.refl _ _⟩
          · rw [if_pos ⟨a2, b2, hab⟩] at hP
            subst hP
            have hne : ¬ (a : Int) = (b : Int) := by omega
            clear a2 b2 a3 b3 hab
            go_enter Try.func21, Try.ntmps21
            go_wp2_with fail
            refine (hA _).mono ?_
            rintro e w1 ⟨rfl, rfl⟩
            go_wp2_with fail
            refine (hB _).mono ?_
            rintro e w2 ⟨rfl, rfl⟩
            go_wp2
            go_ret2
            exact ⟨rfl, Below.refl _ _⟩
        · rw [if_neg (by omega), if_pos a2] at hP
          subst hP
          have hy2 : ¬ (cls b : Int) = 2 := by omega
          have hy3 : ¬ (cls b : Int) = 3 := by omega
          generalize cls b = y at *
          clear a2 b2 a3 b3
          go_enter Try.func21, Try.ntmps21
          go_wp2_with fail
          refine (hA _).mono ?_
          rintro e w1 ⟨rfl, rfl⟩
          go_wp2_with fail
          refine (hB _).mono ?_
          rintro e w2 ⟨rfl, rfl⟩
          go_wp2
          go_ret2
          exact ⟨rfl, Below.refl _ _⟩
      · by_cases b2 : cls b = 2
        · rw [b2] at hB
          rw [if_neg (by omega), if_neg a2, if_pos b2] at hP
          subst hP
          have hx2 : ¬ (cls a : Int) = 2 := by omega
          have hx3 : ¬ (cls a : Int) = 3 := by omega
          generalize cls a = x at *
          clear a2 b2 a3 b3
          go_enter Try.func21, Try.ntmps21
          go_wp2_with fail
          refine (hA _).mono ?_
          rintro e w1 ⟨rfl, rfl⟩
          go_wp2_with fail
          refine (hB _).mono ?_
          rintro e w2 ⟨rfl, rfl⟩
          go_wp2
          go_ret2
          exact ⟨rfl, Below.refl _ _⟩
        · rw [if_neg (by omega), if_neg a2, if_neg b2] at hP
          have hx2 : ¬ (cls a : Int) = 2 := by omega
          have hx3 : ¬ (cls a : Int) = 3 := by omega
          have hy2 : ¬ (cls b : Int) = 2 := by omega
          have hy3 : ¬ (cls b : Int) = 3 := by omega
          have sA := fun w => split6 (W := w) ha
          have sB := fun w => split6 (W := w) hb
          have ra := xpo_range06 a
          have rb := xpo_range06 b
          have la := sig_lt06 a
          have lb := sig_lt06 b
          generalize cls a = x at *
          generalize cls b = y at *
          generalize neg6 a = na at *
          generalize neg6 b = nb at *
          generalize sig a = ma at *
          generalize sig b = mb at *
          generalize xpo a = xa at *
          generalize xpo b = xb at *
          have HP := Lib.hid hP
          have HLA := Lib.hid la
          have HLB := Lib.hid lb
          have bx2 : ((x : Int) == 2) = false := by simp; omega
          have bx3 : ((x : Int) == 3) = false := by simp; omega
          have by2 : ((y : Int) == 2) = false := by simp; omega
          have by3 : ((y : Int) == 3) = false := by simp; omega
          clear a2 b2 a3 b3 hP la lb hx2 hx3 hy2 hy3
          go_enter Try.func21, Try.ntmps21
          go_wp2_with fail
          refine (hA _).mono ?_
          rintro e w1 ⟨rfl, rfl⟩
          go_wp2_with fail
          refine (hB _).mono ?_
          rintro e w2 ⟨rfl, rfl⟩
          go_wp2_with fail
          refine (sA _).mono ?_
          rintro e w3 ⟨rfl, rfl⟩
          go_wp2_with fail
          refine (sB _).mono ?_
          rintro e w4 ⟨rfl, rfl⟩
          clear sA sB hA hB
          go_wp2_with fail
          refine (word6 HLA.out).mono ?_
          rintro e w5 ⟨v5, rfl, r5, b5⟩
          go_wp2_with fail
          refine (word6 HLB.out).mono ?_
          rintro e w6 ⟨v6, rfl, r6, b6⟩
          replace r5 := r5.behind b6
          replace b5 := below_both b5 b6
          clear b6
          go_wp2_with fail
          refine (sum6 (neg := na) (other := nb) (mode := mode) r5 r6 (by omega) (by omega) (by omega) (by omega) (by omega) (by omega)).mono ?_
          rintro e w7 ⟨rfl, b6⟩
          rw [← HP.out]
          go_wp2
          go_ret2
          exact ⟨rfl, below_both b5 b6⟩

end Go.Proofs.Ytgobclmihppopab
