/- vernierlaw12.FcmpSigns, walked. -/
import Derived.Test.YtgobclmihppopabFcLaw
import Derived.Test.YtgobclmihppopabPaNum
import Derived.Test.YtgobclmihppopabFlip
namespace Go.Proofs.Ytgobclmihppopab
open Go.RowKit Go.Shelf
theorem maxU_lt {xs : List Nat} (k : Nat) : maxU xs k ≤ 9221120237041090560 := by
  induction k with
  | zero => exact Nat.zero_le _
  | succ k ih =>
    unfold maxU
    split
    · rename_i h
      have : mag (lim xs k) ≤ 9218868437227405312 := of_decide_eq_true h.1
      omega
    · exact Nat.le_refl _
theorem xor_top {a : Nat} (ha : a < 18446744073709551616) : bits .xor .u64 (a : Int) 9223372036854775808 = ((if neg6 a then mag a else mag a + 9223372036854775808 : Nat) : Int) := by
  have h := bits_xor_u64_nat a 9223372036854775808 ha (by omega)
  have e : a ^^^ 9223372036854775808 = if neg6 a then mag a else mag a + 9223372036854775808 := by
    have := flip_eq ha
    unfold flip at this
    rw [this]
    rcases key_of ha with ⟨k1, k2, _⟩ | ⟨k1, k2, _⟩
    · rw [k1, if_pos rfl, if_pos rfl]; omega
    · rw [k1, if_neg Bool.false_ne_true, if_neg Bool.false_ne_true]; omega
  rw [e] at h
  exact h
set_option maxRecDepth 100000 in
set_option maxHeartbeats 8000000 in
theorem fcmpSigns_calls {a : Nat} {v : Value} {xs : List Nat} {w : World} (ha : (a : Int) ≤ 18446744073709551615) (hA : Arg w v xs) (hl : Low 18446744073709551616 xs) (hn : xs.length ≤ 17592186044416) :
    Calls Try.prog 10 #[.int .u64 (a : Int), v] w fun e W' => e = .returned (.bool true) ∧ Below w.heap.size w W' := by
  have hmax := fun w' (hb : Below w.heap.size w w') => fcmp_max (hA.behind hb) hl hn
  have hab := fun w => fcmp_abs (w := w) ha
  have hng := fun w => fcmp_neg (w := w) ha
  have hca := fun w => class6 (W := w) ha
  have nt := not_top (a := a) (by omega)
  have xt := xor_top (a := a) (by omega)
  have hll := fun k => lim_lt hl (by decide : 0 < 18446744073709551616) k
  have hlt := fun k => maxU_lt (xs := xs) k
  have hstep : ∀ k, maxU xs (k + 1) = if isNum (lim xs k) = true ∧ maxU xs k ≠ 9221120237041090560 then max (maxU xs k) (mag (lim xs k)) else 9221120237041090560 := fun _ => rfl
  obtain ⟨S, hS, hR⟩ := hA
  obtain ⟨s0, cap, rfl, hcap, hsa⟩ := hR.slice
  have hca2 : ∀ k, k < xs.length → ∀ off, s0 = some ⟨S, off, none⟩ → w.cell? ⟨S, off + k, none⟩ = some (.int .u64 (lim xs k : Int)) := by
    intro k hk off ha
    subst ha; exact hR.cell hk
  -- both answers, whatever a is
  obtain ⟨X, Y, c, hc, hXY, hX, hY⟩ : ∃ X Y c : Nat, cls a = c ∧ ((c = 3 ∧ X = 9221120237041090560 ∧ Y = 9221120237041090560) ∨ (((c : Int) == 3) = false ∧ a % 9223372036854775808 = X ∧ (if neg6 a then mag a else mag a + 9223372036854775808) = Y)) ∧ absB a = X ∧ negB a = Y := by
    unfold absB negB
    by_cases h : isNum a = true
    · have := (isNum_cls a).1 h
      exact ⟨_, _, cls a, rfl, .inr ⟨beq_eq_false_iff_ne.2 (by omega), rfl, rfl⟩, by rw [if_pos h]; rfl, by rw [if_pos h]⟩
    · have h3 : cls a = 3 := by
        by_cases h' : cls a = 3
        · exact h'
        · exact absurd ((isNum_cls a).2 h') h
      exact ⟨_, _, 3, h3, .inl ⟨rfl, rfl, rfl⟩, if_neg h, if_neg h⟩
  rw [hc] at hca
  rw [hX] at hab
  rw [hY] at hng
  clear hX hY hc
  have HA := Lib.hid hca2
  have HSA := Lib.hid hsa
  have HLT := Lib.hid hlt
  have HLL := Lib.hid hll
  have HST := Lib.hid hstep
  have H0 : Hid (maxU xs 0 = 0) := Lib.hid rfl
  clear hca2 hsa hlt hll hstep hR hcap hl
  generalize maxU xs = fs at *
  generalize hm : xs.length = m at *
  clear hm
  have xt' : c = 3 ∨ bits .xor .u64 (a : Int) 9223372036854775808 = (Y : Int) := by
    rcases hXY with ⟨h, _, _⟩ | ⟨_, _, h⟩
    · exact .inl h
    · right; rw [xt, h]
  have nt' : c = 3 ∨ bits .andNot .u64 (a : Int) 9223372036854775808 = (X : Int) := by
    rcases hXY with ⟨h, _, _⟩ | ⟨_, h, _⟩
    · exact .inl h
    · right; rw [nt, h]
  replace hXY : (c = 3 ∧ X = 9221120237041090560 ∧ Y = 9221120237041090560) ∨ (((c : Int) == 3) = false ∧ bits .andNot .u64 (a : Int) 9223372036854775808 = (X : Int) ∧ bits .xor .u64 (a : Int) 9223372036854775808 = (Y : Int)) := by
    rcases hXY with h | ⟨h, h1, h2⟩
    · exact .inl h
    · exact .inr ⟨h, by rw [nt, h1], by rw [xt, h2]⟩
  clear xt nt xt' nt' ha
  rcases hXY with ⟨rfl, rfl, rfl⟩ | ⟨d3, nt, xt⟩
  all_goals
    go_enter Try.func10, Try.ntmps10
    go_wp2_with fail
    refine (hca _).mono ?_
    rintro e w1 ⟨rfl, rfl⟩
    clear hca
    go_wp2
    go_loopw [7, 8] (fun s i wr => ∃ k n : Nat, k ≤ m ∧ i = .int .i64 k ∧ Hid (fs k = n) ∧ s = .int .u64 (n : Int) ∧ Below w.heap.size w wr) (fun _ i _ => m - (intOf i).toNat)
    case atStart => exact ⟨0, 0, Nat.zero_le _, rfl, H0, rfl, Below.refl _ _⟩
    case round =>
      obtain ⟨k, n, hk, rfl, hf, rfl, hB⟩ := hrel
      by_cases hlt : k < m
      · obtain ⟨oa, rfl⟩ := HSA.out (by omega)
        have ka := (hB.cell (p := ⟨S, oa + k, none⟩) hS).trans (HA.out k hlt oa rfl)
        have h1 : (n : Int) ≤ 9221120237041090560 := by have := HLT.out k; rw [hf.out] at this; omega
        have h2 : (lim xs k : Int) ≤ 18446744073709551615 := by have := HLL.out k; omega
        have hst := HST.out k
        rw [hf.out] at hst
        have hcl := fun w => class6 (W := w) h2
        have hnm := isNum_cls (lim xs k)
        have hnt := not_top (a := lim xs k) (by omega)
        have hml : mag (lim xs k) < 9223372036854775808 := Nat.mod_lt _ (by decide)
        rw [show lim xs k % 9223372036854775808 = mag (lim xs k) from rfl] at hnt
        -- what is told next
        obtain ⟨v, hv⟩ : ∃ v, fs (k + 1) = v := ⟨_, rfl⟩
        rw [hv] at hst
        have hway : (cls (lim xs k) = 3 ∧ v = 9221120237041090560) ∨ (((cls (lim xs k) : Int) == 3) = false ∧ n = 9221120237041090560 ∧ v = 9221120237041090560) ∨ (((cls (lim xs k) : Int) == 3) = false ∧ ((n : Int) == 9221120237041090560) = false ∧ max (n : Int) (mag (lim xs k) : Int) = (v : Int)) := by
          by_cases c1 : cls (lim xs k) = 3
          · refine .inl ⟨c1, ?_⟩
            rw [hst, if_neg (fun h => hnm.1 h.1 c1)]
          · by_cases c2 : n = 9221120237041090560
            · refine .inr (.inl ⟨beq_eq_false_iff_ne.2 (by omega), c2, ?_⟩)
              rw [hst, if_neg (fun h => h.2 c2)]
            · refine .inr (.inr ⟨beq_eq_false_iff_ne.2 (by omega), beq_eq_false_iff_ne.2 (by omega), ?_⟩)
              rw [hst, if_pos ⟨hnm.2 c1, c2⟩]
              omega
        have HV := Lib.hid hv
        clear hst hnm hv
        generalize cls (lim xs k) = cq at *
        generalize mag (lim xs k) = mq at *
        generalize lim xs k = q at *
        have HW := Lib.hid hway
        clear hway h2 h1 hml
        go_wp2_with fail
        refine (hcl _).mono ?_
        rintro e w2 ⟨rfl, rfl⟩
        clear hcl
        rcases HW.out with ⟨rfl, rfl⟩ | ⟨e1, rfl, rfl⟩ | ⟨e1, e2, e3⟩
        · go_wp2
          go_roundw
          case rel => exact ⟨k + 1, _, by omega, by simp, HV, rfl, hB⟩
          case measure => simp [intOf]; omega
        · go_wp2
          go_roundw
          case rel => exact ⟨k + 1, _, by omega, by simp, HV, rfl, hB⟩
          case measure => simp [intOf]; omega
        · go_wp2
          go_roundw
          case rel => exact ⟨k + 1, v, by omega, by simp, HV, by first | rfl | simp only [*], hB⟩
          case measure => simp [intOf]; omega
      · obtain rfl : k = m := by omega
        have hs := hmax
        rw [hf.out] at hs
        clear hlt hmax
        go_wp2_with fail
        refine (hab _).mono ?_
        rintro e w2 ⟨rfl, b2⟩
        replace hB := below_both hB b2
        clear b2
        go_wp2_with fail
        refine (hng _).mono ?_
        rintro e w2 ⟨rfl, b2⟩
        replace hB := below_both hB b2
        clear b2
        go_wp2_with fail
        refine (hs _ hB).mono ?_
        rintro e w2 ⟨rfl, b2⟩
        replace hB := below_both hB b2
        clear b2
        go_wp2_with fail
        refine (calive _).mono ?_
        rintro e w2 ⟨rfl, b2⟩
        replace hB := below_both hB b2
        clear b2
        go_wp2
        go_ret
        exact ⟨rfl, hB⟩
end Go.Proofs.Ytgobclmihppopab
