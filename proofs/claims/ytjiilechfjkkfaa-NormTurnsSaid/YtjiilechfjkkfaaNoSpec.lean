/- norm: add, told, Max, One, Inf, Frob. -/
import Derived.Test.YtjiilechfjkkfaaNoNum
import Derived.Test.YtjiilechfjkkfaaFaOwn
import Derived.Test.YtjiilechfjkkfaaFmSpec
import Derived.Test.YtjiilechfjkkfaaOw
import Derived.BigRegion
import Derived.Deep.RegionHeld3
namespace Go.Proofs.Ytjiilechfjkkfaa
open Go.RowKit Go.Shelf
def tolE (F : Int) (x : Nat) : Int := if F ≠ 0 then F else if cls x ≤ 1 then 0 else 13
def tolR (F : Int) (x : Nat) : Nat := if tolE F x = 0 then x else 0
theorem tol_no {F : Int} (x : Nat) (h : F ≠ 0) : tolE F x = F ∧ tolR F x = 0 := by
  have e : tolE F x = F := by unfold tolE; rw [if_pos h]
  exact ⟨e, by unfold tolR; rw [e, if_neg h]⟩
theorem tol_ways (x : Nat) : (cls x ≤ 1 ∧ tolE 0 x = 0 ∧ tolR 0 x = x) ∨ (¬ cls x ≤ 1 ∧ tolE 0 x = 13 ∧ tolR 0 x = 0) := by
  unfold tolR tolE
  rw [if_neg (by decide)]
  by_cases h : cls x ≤ 1
  · left; rw [if_pos h, if_pos rfl]; exact ⟨h, rfl, rfl⟩
  · right; rw [if_neg h, if_neg (by decide)]; exact ⟨h, rfl, rfl⟩
theorem norm_add {a b : Nat} {w : World} (ha : (a : Int) ≤ 18446744073709551615) (hb : (b : Int) ≤ 18446744073709551615) :
    Calls Try.prog 85 #[.int .u64 (a : Int), .int .u64 (b : Int)] w fun e W' => e = .returned (.int .u64 (plusU a b : Int)) ∧ Below w.heap.size w W' := by
  have h := fadd_add (mode := 0) (w := w) ha hb
  unfold plusU
  generalize radd a b 0 = p at *
  obtain ⟨x, y⟩ := p
  dsimp only at h ⊢
  clear ha hb
  go_enter Try.func85, Try.ntmps85
  go_wp2_with fail
  refine h.mono ?_
  rintro e w1 ⟨rfl, b1⟩
  clear h
  go_wp2
  go_ret
  exact ⟨rfl, b1⟩
theorem norm_told {x : Nat} {w : World} (hx : (x : Int) ≤ 18446744073709551615) :
    Calls Try.prog 83 #[.int .u64 (x : Int)] w fun e W' => e = .returned (.tuple #[.int .u64 (tolR 0 x : Int), .int .i64 (tolE 0 x)]) ∧ w = W' := by
  have hc := pclass1 (a := x) (w := w) hx
  rcases tol_ways x with ⟨h1, h2, h3⟩ | ⟨h1, h2, h3⟩
  · have hd : decide ((1 : Int) < (cls x : Int)) = false := decide_eq_false (by omega)
    rw [h2, h3]
    clear h1 h2 h3
    generalize cls x = c at *
    go_enter Try.func83, Try.ntmps83
    go_wp2_with fail
    refine hc.mono ?_
    rintro e w1 ⟨rfl, rfl⟩
    clear hc
    go_wp2
    go_ret2
    exact ⟨rfl, rfl⟩
  · have hd : decide ((1 : Int) < (cls x : Int)) = true := decide_eq_true (by omega)
    rw [h2, h3]
    clear h1 h2 h3
    generalize cls x = c at *
    go_enter Try.func83, Try.ntmps83
    go_wp2_with fail
    refine hc.mono ?_
    rintro e w1 ⟨rfl, rfl⟩
    clear hc
    go_wp2
    go_ret2
    exact ⟨rfl, rfl⟩
theorem maxU_lt {xs : List Nat} (hl : Low 18446744073709551616 xs) (n : Nat) : maxU xs n ≤ 18446744073709551615 := by
  cases h : anyN xs n
  · have := max_some n h; omega
  · rw [max_none n h]; decide
set_option maxHeartbeats 4000000 in
theorem norm_max {R C : Int} {a : Option Addr} {m cap : Nat} {xs : List Nat} {w : World} (hA : Arg w (.slice a m cap) xs) (hx : Low 18446744073709551616 xs) (hn : xs.length ≤ 17592186044416) :
    Calls Try.prog 41 #[.agg #[.int .i64 R, .int .i64 C, .slice a m cap]] w fun e W' => e = .returned (.tuple #[.int .u64 (tolR (finM R C m xs) (maxU xs xs.length) : Int), .int .i64 (tolE (finM R C m xs) (maxU xs xs.length))]) ∧ Below w.heap.size w W' := by
  obtain ⟨B, G⟩ := mbox w #[.int .i64 R, .int .i64 C, .slice a m cap] 24 _ rfl
  have HF := Lib.hid (fun (W : World) (h : Below w.heap.size w W) => shape_finite (R := R) (C := C) (hA.behind h) hx)
  have HM := Lib.hid (fun (W : World) (h : Below w.heap.size w W) => fcmp_max (hA.behind h) hx hn)
  have HT := Lib.hid (fun w => norm_told (x := maxU xs xs.length) (w := w) (by have := maxU_lt hx xs.length; omega))
  have c0 := G.cell (i := 0) rfl
  have c1 := G.cell (i := 1) rfl
  have c2 := G.cell (i := 2) rfl
  have hN := fun h => tol_no (F := finM R C m xs) (maxU xs xs.length) h
  clear hA hx hn
  generalize finM R C m xs = F at *
  generalize maxU xs xs.length = v at *
  by_cases h : F = 0
  · subst h
    clear hN
    go_enter Try.func41, Try.ntmps41
    go_wp2_with fail
    generalize w.alloc (.cells #[.int .i64 R, .int .i64 C, .slice a m cap] 24) = W0 at *
    refine (HF.out _ B).mono ?_
    rintro e w1 ⟨rfl, b1⟩
    replace B := below_both B b1
    have c2 := (G.behind b1).cell (i := 2) rfl
    go_wp2_with fail
    refine (HM.out _ B).mono ?_
    rintro e w2 ⟨rfl, b2⟩
    go_wp2_with fail
    refine (HT.out _).mono ?_
    rintro e w3 ⟨rfl, rfl⟩
    go_wp2
    go_ret2
    exact ⟨rfl, below_both B b2⟩
  · obtain ⟨e1, e2⟩ := hN h
    have d : (F != 0) = true := bne_iff_ne.2 h
    rw [e1, e2]
    clear h e1 e2 hN
    go_enter Try.func41, Try.ntmps41
    go_wp2_with fail
    generalize w.alloc (.cells #[.int .i64 R, .int .i64 C, .slice a m cap] 24) = W0 at *
    refine (HF.out _ B).mono ?_
    rintro e w1 ⟨rfl, b1⟩
    go_wp2
    go_ret2
    exact ⟨rfl, below_both B b1⟩
/-- the sum of the squares of the first n -/
def sqS (xs : List Nat) (n : Nat) : Nat := sumS (fun k => timesU (lim xs k) (lim xs k)) n
theorem sumS_lt {f : Nat → Nat} {n : Nat} (h : ∀ k, k < n → f k ≤ 18446744073709551615) : sumS f n ≤ 18446744073709551615 := by
  induction n with
  | zero => exact Nat.zero_le _
  | succ n ih => exact plusU_lt (ih fun k hk => h k (by omega)) (h n (by omega))
set_option maxHeartbeats 8000000 in
theorem norm_frob {R C : Int} {a : Option Addr} {m cap : Nat} {xs : List Nat} {w : World} (hA : Arg w (.slice a m cap) xs) (hx : Low 18446744073709551616 xs) :
    Calls Try.prog 44 #[.agg #[.int .i64 R, .int .i64 C, .slice a m cap]] w fun e W' => e = .returned (.tuple #[.int .u64 (tolR (finM R C m xs) (sqS xs m) : Int), .int .i64 (tolE (finM R C m xs) (sqS xs m))]) ∧ Below w.heap.size w W' := by
  obtain ⟨B, G⟩ := mbox w #[.int .i64 R, .int .i64 C, .slice a m cap] 24 _ rfl
  have HF := Lib.hid (fun (W : World) (h : Below w.heap.size w W) => shape_finite (R := R) (C := C) (hA.behind h) hx)
  have HSL := Lib.hid (fun k => sumS_lt (f := fun k => timesU (lim xs k) (lim xs k)) (n := k) fun j _ => timesU_lt _ _)
  have HT := Lib.hid (fun w => norm_told (x := sqS xs m) (w := w) (by have := HSL.out m; unfold sqS; omega))
  have c0 := G.cell (i := 0) rfl
  have c1 := G.cell (i := 1) rfl
  have c2 := G.cell (i := 2) rfl
  have hN := fun h => tol_no (F := finM R C m xs) (sqS xs m) h
  have hz := fun w => pzero1 false w
  rw [show sgn false = 0 from rfl] at hz
  have hmx : m = xs.length := by
    obtain ⟨a', c', e⟩ := hA.slice
    simp only [Value.slice.injEq] at e
    omega
  have HXL := Lib.hid (fun k => lim_lt hx (by decide : 0 < 18446744073709551616) k)
  by_cases h : finM R C m xs = 0
  · have hm := (finM_may0 h)
    have hm4 : (m : Int) ≤ 4096 := by omega
    rw [h] at HF ⊢
    obtain ⟨S, a', c'', hS, e, hcap, HX⟩ := hA.opened
    simp only [Value.slice.injEq] at e
    obtain ⟨rfl, -, rfl⟩ := e
    rw [← hmx] at HX
    obtain ⟨f, hf⟩ : ∃ f : Nat → Nat, f = sqS xs := ⟨_, rfl⟩
    have HFS : Hid (∀ k, f (k + 1) = plusU (f k) (timesU (lim xs k) (lim xs k))) := Lib.hid (fun k => by rw [hf]; rfl)
    have HF0 : Hid (f 0 = 0) := Lib.hid (by rw [hf]; rfl)
    have HFL : Hid (∀ k, f k ≤ 18446744073709551615) := Lib.hid (fun k => by rw [hf]; exact HSL.out k)
    rw [← hf] at HT ⊢
    clear hN h hm hmx hA hx hcap hf HSL
    go_enter Try.func44, Try.ntmps44
    go_wp2_with fail
    generalize w.alloc (.cells #[.int .i64 R, .int .i64 C, .slice a m cap] 24) = W0 at *
    refine (HF.out _ B).mono ?_
    rintro e w1 ⟨rfl, b1⟩
    replace B := below_both B b1
    replace G := G.behind b1
    have c2 := G.cell (i := 2) rfl
    go_wp2_with fail
    refine (hz _).mono ?_
    rintro e w2 ⟨rfl, rfl⟩
    clear hz HF
    go_wp2_with fail
    go_loopw [5, 19] (fun s i wr => ∃ k n : Nat, k ≤ m ∧ i = .int .i64 k ∧ s = .int .u64 (n : Int) ∧ Hid (n = f k) ∧ Below w1.heap.size w1 wr) (fun _ i _ => m - (intOf i).toNat)
    case atStart => exact ⟨0, 0, Nat.zero_le _, rfl, rfl, Lib.hid HF0.out.symm, Below.refl _ _⟩
    case round =>
      obtain ⟨k, n, hk, rfl, rfl, HN, hB⟩ := hrel
      have hn : (n : Int) ≤ 18446744073709551615 := by have := HFL.out k; rw [← HN.out] at this; omega
      by_cases hlt : k < m
      · obtain ⟨oa, rfl, ka⟩ := HX.out wr (below_both B hB) k hlt
        have h1 := HXL.out k
        have HS1 : Hid (f (k + 1) = plusU n (timesU (lim xs k) (lim xs k))) := Lib.hid (by rw [HFS.out, HN.out])
        have hM1 := fun w => fmul_mul (a := lim xs k) (b := lim xs k) (mode := 0) (w := w) (by omega) (by omega)
        rw [show (rmul (lim xs k) (lim xs k) 0).1 = timesU (lim xs k) (lim xs k) from rfl] at hM1
        have ht := timesU_lt (lim xs k) (lim xs k)
        generalize lim xs k = x at *
        generalize (rmul x x 0).2 = fl at *
        generalize timesU x x = t at *
        have hA1 := fun w => norm_add (a := n) (b := t) (w := w) hn (by omega)
        generalize plusU n t = s at *
        have HM1 := Lib.hid hM1
        have HA1 := Lib.hid hA1
        clear hM1 hA1 h1 ht hn
        go_wp2_with fail
        refine (HM1.out _).mono ?_
        rintro e w3 ⟨rfl, b3⟩
        go_wp2_with fail
        refine (HA1.out _).mono ?_
        rintro e w4 ⟨rfl, b4⟩
        have hB4 := below_both hB (below_both b3 b4)
        go_wp2
        exact ⟨⟨k + 1, s, by omega, by simp, rfl, Lib.hid HS1.out.symm, hB4⟩, by simp [intOf]; omega⟩
      · obtain rfl : k = m := by omega
        obtain rfl := HN.out
        clear hlt hn
        go_wp2_with fail
        refine (HT.out _).mono ?_
        rintro e w3 ⟨rfl, rfl⟩
        go_wp2
        go_ret2
        exact ⟨rfl, below_both B hB⟩
  · obtain ⟨e1, e2⟩ := hN h
    rw [e1, e2]
    generalize finM R C m xs = F at *
    have d : (F != 0) = true := bne_iff_ne.2 h
    clear h e1 e2 hN hA hx hmx
    go_enter Try.func44, Try.ntmps44
    go_wp2_with fail
    generalize w.alloc (.cells #[.int .i64 R, .int .i64 C, .slice a m cap] 24) = W0 at *
    refine (HF.out _ B).mono ?_
    rintro e w1 ⟨rfl, b1⟩
    go_wp2
    go_ret2
    exact ⟨rfl, below_both B b1⟩
end Go.Proofs.Ytjiilechfjkkfaa
