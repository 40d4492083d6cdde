/- vernierlaw19: finite, check, both, plus, times, is. -/
import Derived.Test.YtaefalmabphadabVeLar
import Derived.Test.YtaefalmabphadabVeAdd
import Derived.Test.YtaefalmabphadabVeAxpy
import Derived.Deep.AppendLies
namespace Go.Proofs.Ytaefalmabphadab
open Go.RowKit Go.Shelf
theorem l_plus {a b : Nat} {w : World} (ha : (a : Int) ≤ 18446744073709551615) (hb : (b : Int) ≤ 18446744073709551615) :
    Calls Try.prog 35 #[.int .u64 (a : Int), .int .u64 (b : Int)] w fun e W' => e = .returned (.int .u64 (plusU a b : Int)) ∧ Below w.heap.size w W' := by
  have h := fadd_add (mode := 0) (w := w) ha hb
  unfold plusU
  generalize radd a b 0 = p at *
  obtain ⟨x, y⟩ := p
  dsimp only at h ⊢
  clear ha hb
  go_enter Try.func35, Try.ntmps35
  go_wp2_with fail
  refine h.mono ?_
  rintro e w1 ⟨rfl, b1⟩
  clear h
  go_wp2
  go_ret
  exact ⟨rfl, b1⟩
theorem l_times {a b : Nat} {w : World} (ha : (a : Int) ≤ 18446744073709551615) (hb : (b : Int) ≤ 18446744073709551615) :
    Calls Try.prog 36 #[.int .u64 (a : Int), .int .u64 (b : Int)] w fun e W' => e = .returned (.int .u64 (timesU a b : Int)) ∧ Below w.heap.size w W' := by
  have h := fmul_mul (mode := 0) (w := w) ha hb
  unfold timesU
  generalize rmul a b 0 = p at *
  obtain ⟨x, y⟩ := p
  dsimp only at h ⊢
  clear ha hb
  go_enter Try.func36, Try.ntmps36
  go_wp2_with fail
  refine h.mono ?_
  rintro e w1 ⟨rfl, b1⟩
  clear h
  go_wp2
  go_ret
  exact ⟨rfl, b1⟩
set_option maxRecDepth 100000 in
set_option maxHeartbeats 8000000 in
theorem l_finite {v : Value} {xs : List Nat} {e0 : Int} {w : World} (hA : Arg w v xs) (hl : Low 18446744073709551616 xs) (hn : xs.length ≤ 17592186044416) :
    Calls Try.prog 43 #[v, .int .i64 e0] w fun e W' => e = .returned (.int .i64 (if finB xs xs.length then 0 else e0)) ∧ Below w.heap.size w W' := by
  obtain ⟨R, hR⟩ : ∃ R, R = if finB xs xs.length then (0 : Int) else e0 := ⟨_, rfl⟩
  rw [← hR]
  have HXL := Lib.hid (fun k => lim_lt hl (by decide : 0 < 18446744073709551616) k)
  have HOK : Hid ((∀ j, j < xs.length → cls (lim xs j) ≤ 1) → R = 0) := Lib.hid (fun h => by rw [hR, finB_iff.2 h, if_pos rfl])
  have HNO : Hid (∀ j, j < xs.length → 2 ≤ cls (lim xs j) → R = e0) := Lib.hid (fun j hj h => by rw [hR, finB_not hj h, if_neg (by decide)])
  clear hR
  obtain ⟨S, a, cap, hS, rfl, _, HA⟩ := hA.opened
  clear hA hl
  generalize xs.length = m at *
  go_enter Try.func43, Try.ntmps43
  go_wp2
  go_loopw [5] (fun i wr => ∃ k : Nat, k ≤ m ∧ i = .int .i64 k ∧ Hid (∀ j, j < k → cls (lim xs j) ≤ 1) ∧ Below w.heap.size w wr) (fun i _ => m - (intOf i).toNat)
  case atStart => exact ⟨0, Nat.zero_le _, rfl, Lib.hid (fun j hj => absurd hj (by omega)), Below.refl _ _⟩
  case round =>
    obtain ⟨k, hk, rfl, HQ, hB⟩ := hrel
    by_cases hlt : k < m
    · obtain ⟨oa, rfl, ka⟩ := HA.out wr hB k hlt
      have hcl := fun w => class6 (a := lim xs k) (W := w) (by have := HXL.out k; omega)
      by_cases hc : 2 ≤ cls (lim xs k)
      · have HR := Lib.hid (HNO.out k hlt hc)
        have d : decide ((1 : Int) < (cls (lim xs k) : Int)) = true := decide_eq_true (by omega)
        clear hc
        generalize lim xs k = x at ka hcl d
        generalize cls x = cx at *
        go_wp2_with fail
        refine (hcl _).mono ?_
        rintro e w3 ⟨rfl, rfl⟩
        clear hcl
        go_wp2
        go_ret
        exact ⟨by rw [HR.out]; rfl, hB⟩
      · have HQ2 : Hid (∀ j, j < k + 1 → cls (lim xs j) ≤ 1) := Lib.hid (fun j hj => by
          rcases Nat.lt_or_ge j k with h | h
          · exact HQ.out j h
          · obtain rfl : j = k := by omega
            omega)
        have d : decide ((1 : Int) < (cls (lim xs k) : Int)) = false := decide_eq_false (by omega)
        clear hc
        generalize lim xs k = x at ka hcl d
        generalize cls x = cx at *
        go_wp2_with fail
        refine (hcl _).mono ?_
        rintro e w3 ⟨rfl, rfl⟩
        clear hcl
        go_wp2
        go_roundw
        case rel => exact ⟨k + 1, by omega, by simp, Lib.hid HQ2.out, hB⟩
        case measure => simp [intOf]; omega
    · obtain rfl : k = m := by omega
      have HR := Lib.hid (HOK.out HQ.out)
      clear hlt
      go_wp2
      go_ret
      exact ⟨by rw [HR.out]; rfl, hB⟩
theorem l_check {v : Value} {xs : List Nat} {w : World} (hA : Arg w v xs) (hl : Low 18446744073709551616 xs) (hn : xs.length ≤ 17592186044416) :
    Calls Try.prog 34 #[v] w fun e W' => e = .returned (.int .i64 (chkV xs)) ∧ Below w.heap.size w W' := by
  have hc := l_finite (e0 := 12) hA hl hn
  obtain ⟨a, cap, rfl⟩ := hA.slice
  unfold chkV
  by_cases h : 64 < xs.length
  · have d : decide ((64 : Int) < (xs.length : Int)) = true := decide_eq_true (by omega)
    rw [if_pos h]
    clear h hA hc
    generalize xs.length = m at *
    go_enter Try.func34, Try.ntmps34
    go_wp2
    go_ret
    exact ⟨rfl, Below.refl _ _⟩
  · have d : decide ((64 : Int) < (xs.length : Int)) = false := decide_eq_false (by omega)
    rw [if_neg h]
    clear h hA
    generalize (if finB xs xs.length = true then (0 : Int) else 12) = R at *
    generalize xs.length = m at *
    go_enter Try.func34, Try.ntmps34
    go_wp2_with fail
    refine hc.mono ?_
    rintro e w1 ⟨rfl, b1⟩
    clear hc
    go_wp2
    go_ret
    exact ⟨rfl, b1⟩
theorem l_both {va vb : Value} {xs ys : List Nat} {e0 : Int} {w : World} (hX : Arg w va xs) (hY : Arg w vb ys) (hx : Low 18446744073709551616 xs) (hy : Low 18446744073709551616 ys) (hxn : xs.length ≤ 17592186044416) (hyn : ys.length ≤ 17592186044416) :
    Calls Try.prog 32 #[va, vb, .int .i64 e0] w fun e W' => e = .returned (.int .i64 (bothV xs ys e0)) ∧ Below w.heap.size w W' := by
  have h1 := fun (W : World) (h : Below w.heap.size w W) => l_check (hX.behind h) hx hxn
  have h2 := fun (W : World) (h : Below w.heap.size w W) => l_check (hY.behind h) hy hyn
  obtain ⟨xa, xc, rfl⟩ := hX.slice
  obtain ⟨ya, yc, rfl⟩ := hY.slice
  have H1 := Lib.hid h1
  have H2 := Lib.hid h2
  clear hX hY hx hy h1 h2
  by_cases c1 : chkV xs = 0
  · have HB : bothV xs ys e0 = if chkV ys ≠ 0 then chkV ys else if e0 ≠ 0 then e0 else if xs.length ≠ ys.length then 11 else 0 := by unfold bothV; rw [if_neg (by simp [c1])]
    rw [HB]
    rw [c1] at H1
    clear HB c1
    generalize xs.length = m at *
    generalize ys.length = n at *
    by_cases c2 : chkV ys = 0
    · rw [c2] at H2
      rw [c2, if_neg (by decide)]
      clear c2
      by_cases c3 : e0 = 0
      · subst c3
        rw [if_neg (by decide)]
        by_cases c4 : m = n
        · have d : ((m : Int) != (n : Int)) = false := by rw [c4]; simp
          rw [if_neg (by simp [c4])]
          clear c4
          go_enter Try.func32, Try.ntmps32
          go_wp2_with fail
          refine (H1.out _ (Below.refl _ _)).mono ?_
          rintro e w1 ⟨rfl, b1⟩
          go_wp2_with fail
          refine (H2.out _ b1).mono ?_
          rintro e w2 ⟨rfl, b2⟩
          go_wp2
          go_ret
          exact ⟨rfl, below_both b1 b2⟩
        · have d : ((m : Int) != (n : Int)) = true := bne_iff_ne.2 (by omega)
          rw [if_pos c4]
          clear c4
          go_enter Try.func32, Try.ntmps32
          go_wp2_with fail
          refine (H1.out _ (Below.refl _ _)).mono ?_
          rintro e w1 ⟨rfl, b1⟩
          go_wp2_with fail
          refine (H2.out _ b1).mono ?_
          rintro e w2 ⟨rfl, b2⟩
          go_wp2
          go_ret
          exact ⟨rfl, below_both b1 b2⟩
      · have d : (e0 != 0) = true := bne_iff_ne.2 c3
        rw [if_pos c3]
        clear c3
        go_enter Try.func32, Try.ntmps32
        go_wp2_with fail
        refine (H1.out _ (Below.refl _ _)).mono ?_
        rintro e w1 ⟨rfl, b1⟩
        go_wp2_with fail
        refine (H2.out _ b1).mono ?_
        rintro e w2 ⟨rfl, b2⟩
        go_wp2
        go_ret
        exact ⟨rfl, below_both b1 b2⟩
    · have d : (chkV ys != 0) = true := bne_iff_ne.2 c2
      rw [if_pos c2]
      clear c2
      generalize chkV ys = c at *
      go_enter Try.func32, Try.ntmps32
      go_wp2_with fail
      refine (H1.out _ (Below.refl _ _)).mono ?_
      rintro e w1 ⟨rfl, b1⟩
      go_wp2_with fail
      refine (H2.out _ b1).mono ?_
      rintro e w2 ⟨rfl, b2⟩
      go_wp2_with fail
      refine (H2.out _ (below_both b1 b2)).mono ?_
      rintro e w3 ⟨rfl, b3⟩
      go_wp2
      go_ret
      exact ⟨rfl, below_both b1 (below_both b2 b3)⟩
  · have HB : bothV xs ys e0 = chkV xs := by unfold bothV; rw [if_pos c1]
    have d : (chkV xs != 0) = true := bne_iff_ne.2 c1
    rw [HB]
    clear HB c1
    generalize xs.length = m at *
    generalize ys.length = n at *
    generalize chkV xs = c at *
    go_enter Try.func32, Try.ntmps32
    go_wp2_with fail
    refine (H1.out _ (Below.refl _ _)).mono ?_
    rintro e w1 ⟨rfl, b1⟩
    go_wp2_with fail
    refine (H1.out _ b1).mono ?_
    rintro e w2 ⟨rfl, b2⟩
    go_wp2
    go_ret
    exact ⟨rfl, below_both b1 b2⟩
theorem l_is {va vb : Value} {ws : List Nat} {f : Int} {w : World} (hX : Arg w va (if tellV ws f = 0 then ws else [])) (hY : Arg w vb ws) (hl : Low 18446744073709551616 ws) (hn : ws.length ≤ 17592186044416) :
    Calls Try.prog 42 #[va, .int .i64 (tellV ws f), vb, .int .i64 f] w fun e W' => e = .returned (.bool true) ∧ Below w.heap.size w W' := by
  have hf := l_finite (e0 := 13) hY hl hn
  obtain ⟨ya, yc, hyv⟩ := hY.slice
  obtain ⟨xa, xc, hxv⟩ := hX.slice
  by_cases c : f = 0
  · subst c
    rw [tellV_yes] at hX hxv ⊢
    cases hb : finB ws ws.length
    · rw [hb] at hX hxv hf
      rw [if_neg (by decide)] at hf
      replace hX : Arg w va [] := hX
      replace hxv : va = .slice xa 0 xc := hxv
      show Calls Try.prog 42 #[va, .int .i64 13, vb, .int .i64 0] w _
      subst hxv hyv
      clear hX hY hb
      generalize ws.length = m at *
      go_enter Try.func42, Try.ntmps42
      go_wp2_with fail
      refine hf.mono ?_
      rintro e w1 ⟨rfl, b1⟩
      clear hf
      go_wp2
      go_ret
      exact ⟨rfl, b1⟩
    · rw [hb] at hX hxv hf
      rw [if_pos rfl] at hf
      replace hX : Arg w va ws := hX
      replace hxv : va = .slice xa ws.length xc := hxv
      show Calls Try.prog 42 #[va, .int .i64 0, vb, .int .i64 0] w _
      have hs := fun (W : World) (h : Below w.heap.size w W) => same_arg (hX.behind h) (hY.behind h) (by omega)
      subst hxv hyv
      have HS := Lib.hid hs
      clear hX hY hb hs
      generalize ws.length = m at *
      go_enter Try.func42, Try.ntmps42
      go_wp2_with fail
      refine hf.mono ?_
      rintro e w1 ⟨rfl, b1⟩
      clear hf
      go_wp2_with fail
      refine (HS.out _ b1).mono ?_
      rintro e w2 ⟨rfl, b2⟩
      go_wp2
      go_ret
      exact ⟨rfl, below_both b1 b2⟩
  · rw [tellV_no c] at hX hxv ⊢
    rw [if_neg c] at hX hxv
    have d : (f == 0) = false := beq_eq_false_iff_ne.2 c
    have d2 : (f != 0) = true := bne_iff_ne.2 c
    have d3 : (f == f) = true := by simp
    subst hxv hyv
    clear hX hY hf c
    simp only [List.length_nil] at *
    generalize ws.length = m at *
    go_enter Try.func42, Try.ntmps42
    go_wp2
    go_ret
    exact ⟨rfl, Below.refl _ _⟩
end Go.Proofs.Ytaefalmabphadab
