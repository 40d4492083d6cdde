/- parts: Round, Exact; what its calls keep. -/
import Derived.Test.YtdcebkhdnhdejaaPaTwo
namespace Go.Proofs.Ytdcebkhdnhdejaa
open Go.RowKit Go.Shelf

theorem below_same {w w' : World} (h : w = w') : Below w.heap.size w w' := h ▸ Below.refl _ _
theorem pclass {a : Nat} {w : World} (ha : (a : Int) ≤ 18446744073709551615) : Calls Try.prog 59 #[.int .u64 (a : Int)] w fun e W' => e = .returned (.int .i64 (cls a : Int)) ∧ Below w.heap.size w W' :=
  (pclass1 ha).mono fun _ _ ⟨h, k⟩ => ⟨h, below_same k⟩
theorem psplit_fin {a : Nat} {w : World} (ha : (a : Int) ≤ 18446744073709551615) (h : fe a ≠ 2047) : Calls Try.prog 113 #[.int .u64 (a : Int)] w fun e W' => e = .returned (.tuple #[.bool (neg6 a), .int .u64 (sig a : Int), .int .i64 (xpo a), .int .i64 0]) ∧ Below w.heap.size w W' :=
  (psplit_fin1 ha h).mono fun _ _ ⟨h, k⟩ => ⟨h, below_same k⟩
theorem psplit_inf {a : Nat} {w : World} (ha : (a : Int) ≤ 18446744073709551615) (h : fe a = 2047) : Calls Try.prog 113 #[.int .u64 (a : Int)] w fun e W' => e = .returned (.tuple #[.bool false, .int .u64 0, .int .i64 0, .int .i64 23]) ∧ Below w.heap.size w W' :=
  (psplit_inf1 ha h).mono fun _ _ ⟨h, k⟩ => ⟨h, below_same k⟩
theorem pinf (neg : Bool) (w : World) : Calls Try.prog 75 #[.bool neg] w fun e W' => e = .returned (.int .u64 (infB neg : Int)) ∧ Below w.heap.size w W' :=
  (pinf1 neg w).mono fun _ _ ⟨h, k⟩ => ⟨h, below_same k⟩
theorem pzero (neg : Bool) (w : World) : Calls Try.prog 58 #[.bool neg] w fun e W' => e = .returned (.int .u64 (sgn neg : Int)) ∧ Below w.heap.size w W' :=
  (pzero1 neg w).mono fun _ _ ⟨h, k⟩ => ⟨h, below_same k⟩

set_option maxRecDepth 100000 in
set_option maxHeartbeats 4000000 in
theorem pround {neg more : Bool} {hi lo : Nat} {exp mode : Int} {w : World} (hh : (hi : Int) ≤ 18446744073709551615) (hl : (lo : Int) ≤ 18446744073709551615) (h1 : -9223372036854775808 ≤ exp) (h2 : exp ≤ 9223372036854775807) :
    Calls Try.prog 115 #[.bool neg, .int .u64 (hi : Int), .int .u64 (lo : Int), .int .i64 exp, .bool more, .int .i64 mode] w fun e W' => e = .returned (.tuple #[.int .u64 ((prnd neg hi lo exp more mode).1 : Int), .int .i64 ((prnd neg hi lo exp more mode).2 : Int)]) ∧ Below w.heap.size w W' := by
  have hbo := pbits (w := w) hh hl
  by_cases hN0 : hi * 18446744073709551616 + lo = 0
  · have hz := pzero1 neg w
    unfold prnd
    rw [if_pos hN0]
    rw [hN0, nbits_zero] at hbo
    clear hN0
    go_enter Try.func115, Try.ntmps115
    go_wp2_with fail
    refine hbo.mono ?_
    rintro e w1 ⟨rfl, rfl⟩
    go_wp2_with fail
    refine hz.mono ?_
    rintro e w1 ⟨rfl, rfl⟩
    go_wp2
    go_ret2
    exact ⟨rfl, Below.refl _ _⟩
  · have hgat := fun (m : Bool) => pgather (more := m) (w := w) hN0 hh hl
    unfold prnd
    rw [if_neg hN0]
    have hcE : min (max exp (-16384)) 16384 = clampE exp := rfl
    have hc1 : -16384 ≤ clampE exp := by unfold clampE; omega
    have hc2 : clampE exp ≤ 16384 := by unfold clampE; omega
    have hbl := nbits_le (n := hi * 18446744073709551616 + lo) (k := 128) (by omega)
    have hN : 0 < hi * 18446744073709551616 + lo := by omega
    clear hN0
    generalize hi * 18446744073709551616 + lo = N at *
    generalize clampE exp = E at *
    have hb0 : nbits N ≠ 0 := fun h => by have := nbits_eq_zero h; omega
    obtain ⟨more', hm', hm'', hE⟩ : ∃ more' : Bool, (more' = true → 55 ≤ nbits N ∨ E ≤ -1080) ∧
        ((more = false ∧ more' = false) ∨ (more = true ∧ decide ((55 : Int) ≤ (nbits N : Int)) = true ∧ more' = true) ∨ (more = true ∧ decide ((55 : Int) ≤ (nbits N : Int)) = false ∧ decide (E ≤ -1080) = true ∧ more' = true) ∨ (more = true ∧ decide ((55 : Int) ≤ (nbits N : Int)) = false ∧ decide (E ≤ -1080) = false ∧ more' = false)) ∧
        (if more = true ∧ (55 ≤ nbits N ∨ E ≤ -1080) then rnd neg (2 * N + 1) 1 (E - 1) mode else rnd neg N 1 E mode) = (if more' = true then rnd neg (2 * N + 1) 1 (E - 1) mode else rnd neg N 1 E mode) := by
      cases more
      · exact ⟨false, by simp, .inl ⟨rfl, rfl⟩, by simp⟩
      · by_cases hb : 55 ≤ nbits N
        · exact ⟨true, fun _ => .inl hb, .inr (.inl ⟨rfl, decide_eq_true (by omega), rfl⟩), by rw [if_pos ⟨rfl, .inl hb⟩, if_pos rfl]⟩
        · by_cases he : E ≤ -1080
          · exact ⟨true, fun _ => .inr he, .inr (.inr (.inl ⟨rfl, decide_eq_false (by omega), decide_eq_true he, rfl⟩)), by rw [if_pos ⟨rfl, .inr he⟩, if_pos rfl]⟩
          · exact ⟨false, by simp, .inr (.inr (.inr ⟨rfl, decide_eq_false (by omega), decide_eq_false he, rfl⟩)), by rw [if_neg (by omega), if_neg Bool.false_ne_true]⟩
    rw [hE]
    clear hE
    obtain ⟨hR, hF1, hF2, hF3⟩ := rnd_gth (neg := neg) (mode := mode) more' hN hm'
    rw [hR]
    clear hR hm'
    replace hgat := hgat more'
    obtain ⟨c1, c2⟩ := cutAt_eq N E
    have hGl := gth_lt (N := N) more'
    have hx : max ((nbits N : Int) + E - 53) (-1074) = rx N E := rfl
    have hL := lef_le (gth N more' % 2 ^ cutAt N E) (2 ^ cutAt N E)
    generalize cutAt N E = n at *
    generalize rx N E = x at *
    have hct := fun (v : World) => pcut (x := gth N more') (n := n) (m := n - 1) (w := v) (by omega) (by omega) (by omega)
    generalize gth N more' / 2 ^ n = M at *
    generalize lef (gth N more' % 2 ^ n) (2 ^ n) = L at *
    generalize gth N more' = G at *
    generalize nbits N = b at *
    clear hN
    have d0 : ((b : Int) == 0) = false := beq_eq_false_iff_ne.2 (by omega)
    obtain ⟨top, htop⟩ : ∃ top : Int, top = E + (b : Int) - 1 := ⟨_, rfl⟩
    have ht : E + (b : Int) - 1 = top := htop.symm
    have hx2 : max (top - 52) (-1074) = x := by omega
    have hn2 : x - (top - 63) = (n : Int) := by omega
    have htiny : decide ((b : Int) + E ≤ -1022) = decide (top < -1022) := decide_eq_decide.2 (by omega)
    rw [htiny]
    have k1 : -16384 ≤ top := by omega
    have k2 : top ≤ 16511 := by omega
    have k3 : -1074 ≤ x := by omega
    have k4 : x ≤ 16459 := by omega
    have k5 : (b : Int) ≤ 128 := by omega
    have hlo := fun (v : World) => ploss (top := top) (w := v) hL
    have hgo := fun (v : World) => pgoes (neg := neg) (q := M) (mode := mode) (w := v) (by omega) hL
    have hbe := fun (v : World) => pbeyond (neg := neg) (mode := mode) (w := v)
    have hzo := fun (v : World) => pzero1 neg v
    unfold told
    generalize decide (top < -1022) = tiny at *
    generalize flg L tiny = fl at *
    generalize goes neg mode M L = go at *
    clear htiny hx c1 c2 hb0 hbl htop hL hGl
    obtain ⟨X, hX⟩ : ∃ X : Nat, x = (X : Int) - 1074 := ⟨(x + 1074).toNat, by omega⟩
    have hXn : (x + 1074).toNat = X := by omega
    rw [hXn]
    have kM : M ≤ 9007199254740991 := by omega
    obtain ⟨q1, V, hq1, hq2, hV⟩ : ∃ (q1 : Nat) (V : Int), q1 = (if go = true then M + 1 else M) ∧
        ((go = true ∧ IntKind.u64.wrap (IntKind.u64.wrap ((x + 1074) * 4503599627370496) + IntKind.u64.wrap ((M : Int) + 1)) = V) ∨ (go = false ∧ IntKind.u64.wrap (IntKind.u64.wrap ((x + 1074) * 4503599627370496) + (M : Int)) = V)) ∧
        (X ≤ 2045 → V = ((X * 4503599627370496 + q1 : Nat) : Int) ∧ q1 ≤ 9007199254740992 ∧ M ≤ q1) := by
      simp only [IntKind.wrap_u64]
      cases go
      · exact ⟨M, _, rfl, .inr ⟨rfl, rfl⟩, by omega⟩
      · exact ⟨M + 1, _, rfl, .inl ⟨rfl, rfl⟩, by omega⟩
    have hMq : M ≤ q1 := by rw [hq1]; split <;> omega
    rw [← hq1]
    clear hq1
    obtain ⟨P, hP⟩ : ∃ P : Nat × Nat, P = (if 9218868437227405312 ≤ X * 4503599627370496 + q1 then rbig neg mode else (sgn neg + (X * 4503599627370496 + q1), fl)) := ⟨_, rfl⟩
    rw [← hP]
    have hcase : (decide ((971 : Int) < x) = true ∧ P = rbig neg mode) ∨ (decide ((971 : Int) < x) = false ∧ decide (9218868437227405312 ≤ V) = true ∧ P = rbig neg mode) ∨ (decide ((971 : Int) < x) = false ∧ decide (9218868437227405312 ≤ V) = false ∧ bits .or .u64 (sgn neg : Int) V = (P.1 : Int) ∧ P.2 = fl) := by
      by_cases h : (971 : Int) < x
      · rw [if_pos (by omega)] at hP
        exact .inl ⟨decide_eq_true h, hP⟩
      · obtain ⟨v1, v2, v3⟩ := hV (by omega)
        by_cases h' : 9218868437227405312 ≤ X * 4503599627370496 + q1
        · rw [if_pos h'] at hP
          exact .inr (.inl ⟨decide_eq_false h, decide_eq_true (by omega), hP⟩)
        · rw [if_neg h'] at hP
          have ho := or_sign neg (q := X * 4503599627370496 + q1) (by omega)
          rw [← v1] at ho
          rw [hP]
          exact .inr (.inr ⟨decide_eq_false h, decide_eq_false (by omega), ho, rfl⟩)
    have hr20 : ((rbig neg mode).2 : Int) = 20 := by rw [rbig_goes]; rfl
    clear hF1 hF2 hF3 hXn hX hP hV hMq kM
    obtain ⟨P1, P2⟩ := P
    generalize rbig neg mode = R at *
    obtain ⟨R1, R2⟩ := R
    dsimp only at hcase hr20 hbe ⊢
    rcases hm'' with ⟨rfl, rfl⟩ | ⟨rfl, d1, rfl⟩ | ⟨rfl, d1, d2, rfl⟩ | ⟨rfl, d1, d2, rfl⟩
    all_goals
      go_enter Try.func115, Try.ntmps115
      go_wp2_with fail
      refine hbo.mono ?_
      rintro e w1 ⟨rfl, rfl⟩
      go_wp2_with fail
      refine hgat.mono ?_
      rintro e w1 ⟨rfl, k, rfl⟩
      clear hx2 ht
      go_wp2_with fail
      refine (hct _).mono ?_
      rintro e w1 ⟨rfl, rfl⟩
      clear hn2
      go_wp2_with fail
      refine (hgo _).mono ?_
      rintro e w1 ⟨rfl, rfl⟩
      clear hbo hgat hct hgo
      have bD : Below w.heap.size w (w.drewN k) := below_drewN _ _ _
      rcases hq2 with ⟨rfl, hV⟩ | ⟨rfl, hV⟩
      all_goals
        go_upto_region 12 with (fail)
        try rw [hV]
        clear hV
        rcases hcase with ⟨e1, e2⟩ | ⟨e1, e2, e3⟩ | ⟨e1, e2, e3, e4⟩
        · simp only [Prod.mk.injEq] at e2
          obtain ⟨rfl, rfl⟩ := e2
          go_wp2_with fail
          refine (hbe _).mono ?_
          rintro e w1 ⟨rfl, rfl⟩
          go_wp2
          go_ret2
          rw [hr20]
          exact ⟨rfl, bD⟩
        · simp only [Prod.mk.injEq] at e3
          obtain ⟨rfl, rfl⟩ := e3
          go_wp2_with fail
          refine (hbe _).mono ?_
          rintro e w1 ⟨rfl, rfl⟩
          go_wp2
          go_ret2
          rw [hr20]
          exact ⟨rfl, bD⟩
        · subst e4
          go_wp2_with fail
          refine (hzo _).mono ?_
          rintro e w1 ⟨rfl, rfl⟩
          go_wp2_with fail
          refine (hlo _).mono ?_
          rintro e w1 ⟨rfl, rfl⟩
          go_wp2
          go_ret2
          rw [← e3]
          exact ⟨rfl, bD⟩
end Go.Proofs.Ytdcebkhdnhdejaa
