/- gemm.Gemm. -/
import Derived.Test.YtdcebkhdnhdejaaGeProd
import Derived.Deep.RegionWith
import Derived.Deep.CutRange
import Derived.Deep.DeepCutAuto
namespace Go.Proofs.Ytdcebkhdnhdejaa
open Go.RowKit Go.Shelf
/-- sides and words of a matrix, transposed or not -/
def tR (t : Bool) (R C : Nat) : Nat := if t then C else R
def tX (t : Bool) (R C : Nat) (xs : List Nat) : List Nat := if t then trl R C xs else xs
theorem tX_low {t : Bool} {R C : Nat} {xs : List Nat} (h : Low 18446744073709551616 xs) : Low 18446744073709551616 (tX t R C xs) := by
  unfold tX; cases t
  · exact h
  · exact trl_low h
theorem tX_fin {t : Bool} {R C : Nat} {xs : List Nat} (h : finM R C xs.length xs = 0) : finM (tR t R C) (tR t C R) xs.length (tX t R C xs) = 0 := by
  have hm := fin_yes h
  obtain ⟨q1, q2, q3, q4, q5⟩ := mayM_iff.1 hm.1
  have hl : xs.length = R * C := by rw [← Int.natCast_mul] at q5; omega
  unfold tX tR; cases t
  · exact h
  · have := fin_turn h
    rw [← hl] at this
    exact this
/-- the errors ahead of the product -/
def gaF (fa fb fc : Int) : Int := if fa ≠ 0 then fa else if fb ≠ 0 then fb else fc
def gaP (ta tb : Bool) (r1 c1 r2 c2 : Nat) (xs ys : List Nat) : List Nat := prodM (tR ta r1 c1) (tR ta c1 r1) (tR tb c2 r2) (tX ta r1 c1 xs) (tX tb r2 c2 ys)
def gaU (α β : Nat) (P zs : List Nat) : List Nat := pairV plusU (scalV α P) (scalV β zs)
def gaQ (α β : Nat) (P zs : List Nat) : Int := if (finB P P.length && finB (scalV α P) (scalV α P).length && finB (scalV β zs) (scalV β zs).length && finB (gaU α β P zs) (gaU α β P zs).length) = true then 0 else 13
def gaB (α β : Nat) : Bool := decide (1 < cls α) || decide (1 < cls β)
/-- what Gemm tells: an error and words -/
def GAW (α β : Nat) (ta tb : Bool) (R1 C1 : Int) (m1 : Nat) (xs : List Nat) (R2 C2 : Int) (m2 : Nat) (ys : List Nat) (R3 C3 : Int) (m3 : Nat) (zs : List Nat) (E : Int) (Z : List Nat) : Prop :=
  (gaB α β = true ∧ E = 12 ∧ Z = []) ∨
  (gaB α β = false ∧ gaF (finM R1 C1 m1 xs) (finM R2 C2 m2 ys) (finM R3 C3 m3 zs) ≠ 0 ∧ E = gaF (finM R1 C1 m1 xs) (finM R2 C2 m2 ys) (finM R3 C3 m3 zs) ∧ Z = []) ∨
  (gaB α β = false ∧ ∃ r1 c1 r2 c2 r3 c3 : Nat, R1 = r1 ∧ C1 = c1 ∧ R2 = r2 ∧ C2 = c2 ∧ R3 = r3 ∧ C3 = c3 ∧ finM r1 c1 m1 xs = 0 ∧ finM r2 c2 m2 ys = 0 ∧ finM r3 c3 m3 zs = 0 ∧ ¬ (tR ta c1 r1 = tR tb r2 c2 ∧ tR ta r1 c1 = r3 ∧ tR tb c2 r2 = c3) ∧ E = 11 ∧ Z = []) ∨
  (gaB α β = false ∧ ∃ r1 c1 r2 c2 r3 c3 : Nat, R1 = r1 ∧ C1 = c1 ∧ R2 = r2 ∧ C2 = c2 ∧ R3 = r3 ∧ C3 = c3 ∧ finM r1 c1 m1 xs = 0 ∧ finM r2 c2 m2 ys = 0 ∧ finM r3 c3 m3 zs = 0 ∧ tR ta c1 r1 = tR tb r2 c2 ∧ tR ta r1 c1 = r3 ∧ tR tb c2 r2 = c3 ∧ E = gaQ α β (gaP ta tb r1 c1 r2 c2 xs ys) zs ∧ Z = if E = 0 then gaU α β (gaP ta tb r1 c1 r2 c2 xs ys) zs else [])
theorem gaF_zero {a b c : Int} (h : gaF a b c = 0) : a = 0 ∧ b = 0 ∧ c = 0 := by
  unfold gaF at h
  by_cases h1 : a = 0
  · rw [if_neg (by simp [h1])] at h
    by_cases h2 : b = 0
    · rw [if_neg (by simp [h2])] at h; exact ⟨h1, h2, h⟩
    · rw [if_pos h2] at h; exact absurd h h2
  · rw [if_pos h1] at h; exact absurd h h1
theorem fin_nat {R C : Int} {m : Nat} {xs : List Nat} (h : finM R C m xs = 0) : ∃ r c : Nat, R = r ∧ C = c := by
  obtain ⟨q1, q2, q3, q4, q5⟩ := mayM_iff.1 (finM_ok h).1
  exact ⟨R.toNat, C.toNat, by omega, by omega⟩
theorem gaw_total (α β : Nat) (ta tb : Bool) (R1 C1 : Int) (m1 : Nat) (xs : List Nat) (R2 C2 : Int) (m2 : Nat) (ys : List Nat) (R3 C3 : Int) (m3 : Nat) (zs : List Nat) : ∃ E Z, GAW α β ta tb R1 C1 m1 xs R2 C2 m2 ys R3 C3 m3 zs E Z := by
  cases hB : gaB α β
  · by_cases hF : gaF (finM R1 C1 m1 xs) (finM R2 C2 m2 ys) (finM R3 C3 m3 zs) = 0
    · obtain ⟨h1, h2, h3⟩ := gaF_zero hF
      obtain ⟨r1, c1, rfl, rfl⟩ := fin_nat h1
      obtain ⟨r2, c2, rfl, rfl⟩ := fin_nat h2
      obtain ⟨r3, c3, rfl, rfl⟩ := fin_nat h3
      by_cases hS : tR ta c1 r1 = tR tb r2 c2 ∧ tR ta r1 c1 = r3 ∧ tR tb c2 r2 = c3
      · exact ⟨_, _, .inr (.inr (.inr ⟨hB, r1, c1, r2, c2, r3, c3, rfl, rfl, rfl, rfl, rfl, rfl, h1, h2, h3, hS.1, hS.2.1, hS.2.2, rfl, rfl⟩))⟩
      · exact ⟨11, [], .inr (.inr (.inl ⟨hB, r1, c1, r2, c2, r3, c3, rfl, rfl, rfl, rfl, rfl, rfl, h1, h2, h3, hS, rfl, rfl⟩))⟩
    · exact ⟨_, [], .inr (.inl ⟨hB, hF, rfl, rfl⟩)⟩
  · exact ⟨12, [], .inl ⟨hB, rfl, rfl⟩⟩
/-- a list that lies in no block from b0 to below b1 -/
def Sp (b0 b1 : Nat) (W : World) (v : Value) (xs : List Nat) : Prop := ∃ S, S < W.heap.size ∧ (S < b0 ∨ b1 ≤ S) ∧ RdAt S W v xs
theorem Sp.behind {b0 b1 : Nat} {W W' : World} {v : Value} {xs : List Nat} (h : Sp b0 b1 W v xs) (hb : Below W.heap.size W W') : Sp b0 b1 W' v xs := by
  obtain ⟨S, h1, h2, h3⟩ := h
  exact ⟨S, Nat.lt_of_lt_of_le h1 hb.size, h2, h3.kept (hb.block S h1)⟩
theorem Sp.arg {b0 b1 : Nat} {W : World} {v : Value} {xs : List Nat} (h : Sp b0 b1 W v xs) : Arg W v xs := by
  obtain ⟨S, h1, _, h3⟩ := h
  exact ⟨S, h1, h3⟩
theorem heap_put3 {W : World} {g q : Nat} {x y z : Value} (h : q ≠ g) : (((W.setCell ⟨g, 0, none⟩ x).setCell ⟨g, 1, none⟩ y).setCell ⟨g, 2, none⟩ z).heap[q]? = W.heap[q]? :=
  (Below.heap_setCell _ ⟨g, 2, none⟩ _ _ h).trans ((Below.heap_setCell _ ⟨g, 1, none⟩ _ _ h).trans (Below.heap_setCell _ ⟨g, 0, none⟩ _ _ h))
theorem Sp.put3 {b0 b1 g : Nat} {W : World} {v x y z : Value} {xs : List Nat} (h : Sp b0 b1 W v xs) (h1 : b0 ≤ g) (h2 : g < b1) : Sp b0 b1 (((W.setCell ⟨g, 0, none⟩ x).setCell ⟨g, 1, none⟩ y).setCell ⟨g, 2, none⟩ z) v xs := by
  obtain ⟨S, k1, k2, k3⟩ := h
  exact ⟨S, by simpa only [World.size_setCell] using k1, k2, k3.kept (heap_put3 (by omega))⟩
theorem ms_past3 {W : World} {g h : Nat} {cs : Array Value} {t : TypeId} {x y z : Value} (hM : Ms W g cs t) (hn : g ≠ h) : Ms (((W.setCell ⟨h, 0, none⟩ x).setCell ⟨h, 1, none⟩ y).setCell ⟨h, 2, none⟩ z) g cs t := (heap_put3 hn).trans hM
theorem ms_put3 {W : World} {g : Nat} {a b c x y z : Value} {t : TypeId} (hM : Ms W g #[a, b, c] t) : Ms (((W.setCell ⟨g, 0, none⟩ x).setCell ⟨g, 1, none⟩ y).setCell ⟨g, 2, none⟩ z) g #[x, y, z] t := ((hM.set 0 x).set 1 y).set 2 z
/-- turned, whether or not -/
theorem gemm_turn {t : Bool} {a : Option Addr} {m cap R C : Nat} {xs : List Nat} {w : World} (hA : Arg w (.slice a m cap) xs) (hl : Low 18446744073709551616 xs) (h : mayM R C m = true) (b0 b1 : Nat) (hb0 : ∃ S, S < b0 ∧ RdAt S w (.slice a m cap) xs) (hb1 : b1 ≤ w.heap.size) :
    Calls Try.prog 83 #[.agg #[.int .i64 (R : Int), .int .i64 (C : Int), .slice a m cap], .bool t] w fun e W' => ∃ b c, e = .returned (.agg #[.int .i64 (tR t R C : Int), .int .i64 (tR t C R : Int), .slice b m c]) ∧ Sp b0 b1 W' (.slice b m c) (tX t R C xs) ∧ Below w.heap.size w W' := by
  have hmx : m = R * C := by
    obtain ⟨q1, q2, q3, q4, q5⟩ := mayM_iff.1 h
    rw [← Int.natCast_mul] at q5; omega
  have hm0 : 0 < m := by
    obtain ⟨q1, q2, q3, q4, q5⟩ := mayM_iff.1 h
    rw [hmx]; exact Nat.mul_pos (by omega) (by omega)
  cases t
  · refine gemm_turned_f.mono ?_
    rintro e W' ⟨rfl, hb⟩
    obtain ⟨S, hS, hR⟩ := hb0
    obtain ⟨T, hT, hR2⟩ := hA
    have hSw : S < w.heap.size := by
      obtain ⟨sa, sc, es, _, hof⟩ := hR.slice
      obtain ⟨ta, tc, et, _, hot⟩ := hR2.slice
      simp only [Value.slice.injEq] at es et
      obtain ⟨o1, e1⟩ := hof (by omega)
      obtain ⟨o2, e2⟩ := hot (by omega)
      have : S = T := by
        have h9 := (es.1.symm.trans et.1)
        rw [e1, e2] at h9
        simpa using congrArg (fun x => (x.map Addr.block).getD 0) h9
      omega
    exact ⟨a, cap, rfl, ⟨S, Nat.lt_of_lt_of_le hSw hb.size, .inl hS, hR.kept (hb.block S hSw)⟩, hb⟩
  · refine (gemm_turned hA hl h).mono ?_
    rintro e W' ⟨b, c, rfl, ⟨S, hR, hS, ho⟩, hb⟩
    refine ⟨b, c, by rw [hmx]; rfl, ⟨S, hS, .inr ?_, by rw [hmx]; exact hR⟩, hb⟩
    rcases ho with ho | ho
    · simp only [Value.slice.injEq] at ho
      omega
    · omega
theorem vbox4 (w : World) (c d e f : Array Value) (t u v x : TypeId) (W : World) (h : W = (((w.alloc (.cells c t)).alloc (.cells d u)).alloc (.cells e v)).alloc (.cells f x)) :
    Below w.heap.size w W ∧ Ms W w.heap.size c t ∧ Ms W (w.heap.size + 1) d u ∧ Ms W (w.heap.size + 2) e v ∧ Ms W (w.heap.size + 3) f x ∧ W.heap.size = w.heap.size + 4 := by
  subst h
  obtain ⟨b1, g1⟩ := mbox w c t _ rfl
  obtain ⟨b2, g2⟩ := mbox (w.alloc (.cells c t)) d u _ rfl
  obtain ⟨b3, g3⟩ := mbox ((w.alloc (.cells c t)).alloc (.cells d u)) e v _ rfl
  obtain ⟨b4, g4⟩ := mbox (((w.alloc (.cells c t)).alloc (.cells d u)).alloc (.cells e v)) f x _ rfl
  have k2 := below_both b3 b4
  have k1 := below_both b2 k2
  have r1 := g1.behind k1
  have r2 := g2.behind k2
  have r3 := g3.behind b4
  simp only [World.size_alloc] at r2 r3 g4
  exact ⟨below_both b1 k1, r1, r2, r3, g4, by simp only [World.size_alloc]⟩
set_option maxRecDepth 100000 in
set_option maxHeartbeats 16000000 in
theorem gemm_gemm {α β : Nat} {ta tb : Bool} {R1 C1 R2 C2 R3 C3 : Int} {a b c : Option Addr} {m1 m2 m3 k1 k2 k3 : Nat} {xs ys zs : List Nat} {w : World} (hα : (α : Int) ≤ 18446744073709551615) (hβ : (β : Int) ≤ 18446744073709551615)
    (hA : Arg w (.slice a m1 k1) xs) (hB : Arg w (.slice b m2 k2) ys) (hC : Arg w (.slice c m3 k3) zs) (hx : Low 18446744073709551616 xs) (hy : Low 18446744073709551616 ys) (hz : Low 18446744073709551616 zs)
    {E : Int} {Z : List Nat} (hG : GAW α β ta tb R1 C1 m1 xs R2 C2 m2 ys R3 C3 m3 zs E Z) :
    Calls Try.prog 36 #[.int .u64 (α : Int), .agg #[.int .i64 R1, .int .i64 C1, .slice a m1 k1], .bool ta, .agg #[.int .i64 R2, .int .i64 C2, .slice b m2 k2], .bool tb, .int .u64 (β : Int), .agg #[.int .i64 R3, .int .i64 C3, .slice c m3 k3]] w fun e W' => ∃ R C b2 n c2, e = .returned (.tuple #[.agg #[.int .i64 R, .int .i64 C, .slice b2 n c2], .int .i64 E]) ∧ New w.heap.size W' (.slice b2 n c2) Z ∧ (E = 0 → R = R3 ∧ C = C3) ∧ Below w.heap.size w W' := by
  have hpos : 0 < w.heap.size := by obtain ⟨S, hS, _⟩ := hA; omega
  obtain ⟨B0, G1, G2, G3, G4, hsz⟩ := vbox4 w #[.int .i64 R1, .int .i64 C1, .slice a m1 k1] #[.int .i64 R2, .int .i64 C2, .slice b m2 k2] #[.int .i64 R3, .int .i64 C3, .slice c m3 k3] #[.int .i64 0, .int .i64 0, .slice none 0 0] 24 24 24 24 _ rfl
  have H1 := Lib.hid (fun (W : World) (h : Below w.heap.size w W) => shape_finite (R := R1) (C := C1) (hA.behind h) hx)
  have H2 := Lib.hid (fun (W : World) (h : Below w.heap.size w W) => shape_finite (R := R2) (C := C2) (hB.behind h) hy)
  have H3 := Lib.hid (fun (W : World) (h : Below w.heap.size w W) => shape_finite (R := R3) (C := C3) (hC.behind h) hz)
  have HCA := Lib.hid (fun w => pclass1 (a := α) (w := w) hα)
  have HCB := Lib.hid (fun w => pclass1 (a := β) (w := w) hβ)
  have HGA := Lib.hid hG
  have HXX := Lib.hid (And.intro hA (And.intro hB (And.intro hC (And.intro hx (And.intro hy hz)))))
  have x0 : ∀ w : World, (Instr.index 101 (.agg #[.int .u64 (α : Int), .int .u64 (β : Int)]) (.int .i64 0)).run Try.prog w = .ok (.int .u64 (α : Int)) w := fun _ => by kernel_rfl
  have x1 : ∀ w : World, (Instr.index 101 (.agg #[.int .u64 (α : Int), .int .u64 (β : Int)]) (.int .i64 1)).run Try.prog w = .ok (.int .u64 (β : Int)) w := fun _ => by kernel_rfl
  have y0 : ∀ w : World, (Instr.index 102 (.agg #[.int .i64 R1, .int .i64 C1, .slice a m1 k1, .int .i64 R2, .int .i64 C2, .slice b m2 k2, .int .i64 R3, .int .i64 C3, .slice c m3 k3]) (.int .i64 0)).run Try.prog w = .ok (.agg #[.int .i64 R1, .int .i64 C1, .slice a m1 k1]) w := fun _ => by kernel_rfl
  have y1 : ∀ w : World, (Instr.index 102 (.agg #[.int .i64 R1, .int .i64 C1, .slice a m1 k1, .int .i64 R2, .int .i64 C2, .slice b m2 k2, .int .i64 R3, .int .i64 C3, .slice c m3 k3]) (.int .i64 1)).run Try.prog w = .ok (.agg #[.int .i64 R2, .int .i64 C2, .slice b m2 k2]) w := fun _ => by kernel_rfl
  have y2 : ∀ w : World, (Instr.index 102 (.agg #[.int .i64 R1, .int .i64 C1, .slice a m1 k1, .int .i64 R2, .int .i64 C2, .slice b m2 k2, .int .i64 R3, .int .i64 C3, .slice c m3 k3]) (.int .i64 2)).run Try.prog w = .ok (.agg #[.int .i64 R3, .int .i64 C3, .slice c m3 k3]) w := fun _ => by kernel_rfl
  have HBAD : Hid (gaB α β = true → E = 12 ∧ Z = []) := Lib.hid (fun h => by
    rcases hG with ⟨_, h1, h2⟩ | ⟨h0, _⟩ | ⟨h0, _⟩ | ⟨h0, _⟩
    · exact ⟨h1, h2⟩
    · rw [h0] at h; cases h
    · rw [h0] at h; cases h
    · rw [h0] at h; cases h)
  have HFIN : Hid (gaB α β = false → ∀ f, f = gaF (finM R1 C1 m1 xs) (finM R2 C2 m2 ys) (finM R3 C3 m3 zs) → f ≠ 0 → E = f ∧ Z = []) := Lib.hid (fun h f hf hf0 => by
    subst hf
    have key : ∀ r1 c1 r2 c2 r3 c3 : Nat, R1 = r1 → C1 = c1 → R2 = r2 → C2 = c2 → R3 = r3 → C3 = c3 → finM r1 c1 m1 xs = 0 → finM r2 c2 m2 ys = 0 → finM r3 c3 m3 zs = 0 → False := fun r1 c1 r2 c2 r3 c3 e1 e2 e3 e4 e5 e6 p1 p2 p3 => by
      subst e1 e2 e3 e4 e5 e6
      exact hf0 (by rw [p1, p2, p3]; rfl)
    rcases hG with ⟨h0, _⟩ | ⟨_, _, h1, h2⟩ | ⟨_, r1, c1, r2, c2, r3, c3, e1, e2, e3, e4, e5, e6, p1, p2, p3, _⟩ | ⟨_, r1, c1, r2, c2, r3, c3, e1, e2, e3, e4, e5, e6, p1, p2, p3, _⟩
    · rw [h] at h0; cases h0
    · exact ⟨h1, h2⟩
    · exact (key r1 c1 r2 c2 r3 c3 e1 e2 e3 e4 e5 e6 p1 p2 p3).elim
    · exact (key r1 c1 r2 c2 r3 c3 e1 e2 e3 e4 e5 e6 p1 p2 p3).elim)
  have HBF : Hid (gaB α β = (decide (1 < cls α) || decide (1 < cls β))) := Lib.hid rfl
  generalize hfa : finM R1 C1 m1 xs = fa at *
  generalize hfb : finM R2 C2 m2 ys = fb at *
  generalize hfc : finM R3 C3 m3 zs = fc at *
  have HFE := Lib.hid (And.intro hfa (And.intro hfb hfc))
  clear hfa hfb hfc hG hA hB hC hx hy hz
  have c0 := G1.cell (i := 0) rfl
  have c1 := G1.cell (i := 1) rfl
  have c2 := G1.cell (i := 2) rfl
  have d0 := G2.cell (i := 0) rfl
  have d1 := G2.cell (i := 1) rfl
  have d2 := G2.cell (i := 2) rfl
  have v0 := G3.cell (i := 0) rfl
  have v1 := G3.cell (i := 1) rfl
  have v2 := G3.cell (i := 2) rfl
  go_enter Try.func36, Try.ntmps36
  go_wp2
  generalize (((w.alloc (.cells #[.int .i64 R1, .int .i64 C1, .slice a m1 k1] 24)).alloc (.cells #[.int .i64 R2, .int .i64 C2, .slice b m2 k2] 24)).alloc (.cells #[.int .i64 R3, .int .i64 C3, .slice c m3 k3] 24)).alloc (.cells #[.int .i64 0, .int .i64 0, .slice none 0 0] 24) = W0 at *
  have GR := Lib.hid G4
  have HG1 := Lib.hid G1
  have HG2 := Lib.hid G2
  have HG3 := Lib.hid G3
  have HB0 := Lib.hid B0
  have HSZ := Lib.hid hsz
  replace B0 := HB0
  clear G4 G1 G2 G3 hsz
  go_loopw [27] (fun i wr => ∃ (k : Nat) (z : Int), k ≤ 2 ∧ z = k ∧ i = .int .i64 z ∧ Hid (1 ≤ k → cls α ≤ 1) ∧ Hid (2 ≤ k → cls β ≤ 1) ∧ W0 = wr) (fun i _ => 2 - (intOf i).toNat)
  case atStart => exact ⟨0, 0, by omega, rfl, rfl, Lib.hid (fun h => absurd h (by decide)), Lib.hid (fun h => absurd h (by decide)), rfl⟩
  case round =>
    obtain ⟨k, z, hk, hz, rfl, HE1, HE2, rfl⟩ := hrel
    rcases (show k = 0 ∨ k = 1 ∨ k = 2 by omega) with rfl | rfl | rfl
    · obtain rfl : z = 0 := hz
      by_cases he : 1 < cls α
      · have HT : Hid (E = 12 ∧ Z = []) := Lib.hid (HBAD.out (by rw [HBF.out, decide_eq_true he]; rfl))
        have q : decide ((1 : Int) < (cls α : Int)) = true := decide_eq_true (by omega)
        have BR : Below W0.heap.size W0 W0 := Below.refl _ _
        generalize cls α = ca at *
        clear he
        go_wp2_with fail
        refine (HCA.out _).mono ?_
        rintro e w2 ⟨rfl, rfl⟩
        have G9 := GR.out.behind BR
        have g0 := G9.cell (i := 0) rfl
        have g1 := G9.cell (i := 1) rfl
        have g2 := G9.cell (i := 2) rfl
        have f0 := G9.f 0
        have f1 := G9.f 1
        have f2 := G9.f 2
        have HB9 := Lib.hid (below_both B0.out BR)
        clear G9
        go_wp2
        exact bodyPost_ret (v := .tuple #[.agg #[.int .i64 0, .int .i64 0, .slice none 0 0], .int .i64 12]) (by simp [results, Try.results36, go_sem, g0, g1, g2]) rfl
          ⟨0, 0, none, 0, 0, by rw [HT.out.1], by rw [HT.out.2]; exact new_nil _ hpos (HB9.out.put3 (by omega) _ _ _), fun h => absurd (HT.out.1.symm.trans h) (by first | decide | exact HTN.out), HB9.out.put3 (by omega) _ _ _⟩
      · have HE := Lib.hid he
        have q : decide ((1 : Int) < (cls α : Int)) = false := decide_eq_false (by omega)
        have HQ : Hid (1 ≤ 1 → cls α ≤ 1) := Lib.hid (fun _ => by have := HE.out; omega)
        clear he
        generalize hca : cls α = ca at *
        clear hca
        go_wp2_with fail
        refine (HCA.out _).mono ?_
        rintro e w2 ⟨rfl, rfl⟩
        go_wp2
        exact ⟨⟨1, 1, by omega, rfl, rfl, Lib.hid HQ.out, Lib.hid (fun h => absurd h (by decide)), trivial⟩, by simp [intOf]⟩
    · obtain rfl : z = 1 := hz
      by_cases he : 1 < cls β
      · have HT : Hid (E = 12 ∧ Z = []) := Lib.hid (HBAD.out (by rw [HBF.out, decide_eq_true he, Bool.or_true]))
        have q : decide ((1 : Int) < (cls β : Int)) = true := decide_eq_true (by omega)
        have BR : Below W0.heap.size W0 W0 := Below.refl _ _
        generalize cls β = ca at *
        clear he
        go_wp2_with fail
        refine (HCB.out _).mono ?_
        rintro e w2 ⟨rfl, rfl⟩
        have G9 := GR.out.behind BR
        have g0 := G9.cell (i := 0) rfl
        have g1 := G9.cell (i := 1) rfl
        have g2 := G9.cell (i := 2) rfl
        have f0 := G9.f 0
        have f1 := G9.f 1
        have f2 := G9.f 2
        have HB9 := Lib.hid (below_both B0.out BR)
        clear G9
        go_wp2
        exact bodyPost_ret (v := .tuple #[.agg #[.int .i64 0, .int .i64 0, .slice none 0 0], .int .i64 12]) (by simp [results, Try.results36, go_sem, g0, g1, g2]) rfl
          ⟨0, 0, none, 0, 0, by rw [HT.out.1], by rw [HT.out.2]; exact new_nil _ hpos (HB9.out.put3 (by omega) _ _ _), fun h => absurd (HT.out.1.symm.trans h) (by first | decide | exact HTN.out), HB9.out.put3 (by omega) _ _ _⟩
      · have q : decide ((1 : Int) < (cls β : Int)) = false := decide_eq_false (by omega)
        have HQ : Hid (2 ≤ 2 → cls β ≤ 1) := Lib.hid (fun _ => by omega)
        have HQ1 : Hid (1 ≤ 2 → cls α ≤ 1) := Lib.hid (fun _ => HE1.out (by omega))
        clear he
        generalize hca : cls β = ca at *
        clear hca
        go_wp2_with fail
        refine (HCB.out _).mono ?_
        rintro e w2 ⟨rfl, rfl⟩
        go_wp2
        exact ⟨⟨2, 2, by omega, rfl, rfl, Lib.hid HQ1.out, Lib.hid HQ.out, trivial⟩, by simp [intOf]⟩
    · obtain rfl : z = 2 := hz
      have HOK : Hid (cls α ≤ 1 ∧ cls β ≤ 1) := Lib.hid ⟨HE1.out (by omega), HE2.out (by omega)⟩
      have HNB : Hid (gaB α β = false) := Lib.hid (by rw [HBF.out, decide_eq_false (by have := HOK.out.1; omega), decide_eq_false (by have := HOK.out.2; omega)]; rfl)
      clear HE1 HE2 HBAD HBF
      go_wp2
      go_loopw [39] (fun i wr => ∃ (k : Nat) (z : Int), k ≤ 3 ∧ z = k ∧ i = .int .i64 z ∧ Hid (1 ≤ k → fa = 0) ∧ Hid (2 ≤ k → fb = 0) ∧ Hid (3 ≤ k → fc = 0) ∧ Below W0.heap.size W0 wr) (fun i _ => 3 - (intOf i).toNat)
      case atStart => exact ⟨0, 0, by omega, rfl, rfl, Lib.hid (fun h => absurd h (by decide)), Lib.hid (fun h => absurd h (by decide)), Lib.hid (fun h => absurd h (by decide)), Below.refl _ _⟩
      case round =>
        obtain ⟨k, z, hk, hz, rfl, HE1, HE2, HE3, hB⟩ := hrel
        have hBw := below_both B0.out hB
        rcases (show k = 0 ∨ k = 1 ∨ k = 2 ∨ k = 3 by omega) with rfl | rfl | rfl | rfl
        · obtain rfl : z = 0 := hz
          by_cases he : fa = 0
          · have HZ1 := Lib.hid he
            have d : (fa != 0) = false := by simp [he]
            clear he 
            go_wp2_with fail
            have bA := bel_new wr (.cells #[.int .i64 R1, .int .i64 C1, .slice a m1 k1] 24)
            refine (H1.out _ (below_both hBw bA)).mono ?_
            rintro e w2 ⟨rfl, b2⟩
            go_wp2
            go_roundw
            case rel => exact ⟨1, 1, by omega, rfl, rfl, Lib.hid (fun _ => HZ1.out), Lib.hid (fun h => absurd h (by decide)), Lib.hid (fun h => absurd h (by decide)), below_both hB (below_both bA b2)⟩
            case measure => simp [intOf]
          · have d : (fa != 0) = true := bne_iff_ne.2 he
            have HTN : Hid (fa ≠ 0) := Lib.hid he
            have HT : Hid (E = fa ∧ Z = []) := Lib.hid (HFIN.out HNB.out fa (by unfold gaF; rw [if_pos he] ) he)
            clear he 
            go_wp2_with fail
            have bA := bel_new wr (.cells #[.int .i64 R1, .int .i64 C1, .slice a m1 k1] 24)
            refine (H1.out _ (below_both hBw bA)).mono ?_
            rintro e w2 ⟨rfl, b2⟩
            have BR := below_both hB (below_both bA b2)
            have G9 := GR.out.behind BR
            have g0 := G9.cell (i := 0) rfl
            have g1 := G9.cell (i := 1) rfl
            have g2 := G9.cell (i := 2) rfl
            have f0 := G9.f 0
            have f1 := G9.f 1
            have f2 := G9.f 2
            have HB9 := Lib.hid (below_both B0.out BR)
            clear G9
            go_wp2
            exact bodyPost_ret (v := .tuple #[.agg #[.int .i64 0, .int .i64 0, .slice none 0 0], .int .i64 fa]) (by simp [results, Try.results36, go_sem, g0, g1, g2]) rfl
              ⟨0, 0, none, 0, 0, by rw [HT.out.1], by rw [HT.out.2]; exact new_nil _ hpos (HB9.out.put3 (by omega) _ _ _), fun h => absurd (HT.out.1.symm.trans h) (by first | decide | exact HTN.out), HB9.out.put3 (by omega) _ _ _⟩
        · obtain rfl : z = 1 := hz
          have ha0 : fa = 0 := HE1.out (by omega)
          have HZ1 := Lib.hid ha0
          by_cases he : fb = 0
          · have HZ2 := Lib.hid he
            have d : (fb != 0) = false := by simp [he]
            clear he ha0
            go_wp2_with fail
            have bA := bel_new wr (.cells #[.int .i64 R2, .int .i64 C2, .slice b m2 k2] 24)
            refine (H2.out _ (below_both hBw bA)).mono ?_
            rintro e w2 ⟨rfl, b2⟩
            go_wp2
            go_roundw
            case rel => exact ⟨2, 2, by omega, rfl, rfl, Lib.hid (fun _ => HZ1.out), Lib.hid (fun _ => HZ2.out), Lib.hid (fun h => absurd h (by decide)), below_both hB (below_both bA b2)⟩
            case measure => simp [intOf]
          · have d : (fb != 0) = true := bne_iff_ne.2 he
            have HTN : Hid (fb ≠ 0) := Lib.hid he
            have HT : Hid (E = fb ∧ Z = []) := Lib.hid (HFIN.out HNB.out fb (by unfold gaF; rw [if_neg (by simp [ha0])]; rw [if_pos he] ) he)
            clear he ha0
            go_wp2_with fail
            have bA := bel_new wr (.cells #[.int .i64 R2, .int .i64 C2, .slice b m2 k2] 24)
            refine (H2.out _ (below_both hBw bA)).mono ?_
            rintro e w2 ⟨rfl, b2⟩
            have BR := below_both hB (below_both bA b2)
            have G9 := GR.out.behind BR
            have g0 := G9.cell (i := 0) rfl
            have g1 := G9.cell (i := 1) rfl
            have g2 := G9.cell (i := 2) rfl
            have f0 := G9.f 0
            have f1 := G9.f 1
            have f2 := G9.f 2
            have HB9 := Lib.hid (below_both B0.out BR)
            clear G9
            go_wp2
            exact bodyPost_ret (v := .tuple #[.agg #[.int .i64 0, .int .i64 0, .slice none 0 0], .int .i64 fb]) (by simp [results, Try.results36, go_sem, g0, g1, g2]) rfl
              ⟨0, 0, none, 0, 0, by rw [HT.out.1], by rw [HT.out.2]; exact new_nil _ hpos (HB9.out.put3 (by omega) _ _ _), fun h => absurd (HT.out.1.symm.trans h) (by first | decide | exact HTN.out), HB9.out.put3 (by omega) _ _ _⟩
        · obtain rfl : z = 2 := hz
          have ha0 : fa = 0 := HE1.out (by omega)
          have hb0 : fb = 0 := HE2.out (by omega)
          have HZ1 := Lib.hid ha0
          have HZ2 := Lib.hid hb0
          by_cases he : fc = 0
          · have HZ3 := Lib.hid he
            have d : (fc != 0) = false := by simp [he]
            clear he ha0 hb0
            go_wp2_with fail
            have bA := bel_new wr (.cells #[.int .i64 R3, .int .i64 C3, .slice c m3 k3] 24)
            refine (H3.out _ (below_both hBw bA)).mono ?_
            rintro e w2 ⟨rfl, b2⟩
            go_wp2
            go_roundw
            case rel => exact ⟨3, 3, by omega, rfl, rfl, Lib.hid (fun _ => HZ1.out), Lib.hid (fun _ => HZ2.out), Lib.hid (fun _ => HZ3.out), below_both hB (below_both bA b2)⟩
            case measure => simp [intOf]
          · have d : (fc != 0) = true := bne_iff_ne.2 he
            have HTN : Hid (fc ≠ 0) := Lib.hid he
            have HT : Hid (E = fc ∧ Z = []) := Lib.hid (HFIN.out HNB.out fc (by unfold gaF; rw [if_neg (by simp [ha0])]; rw [if_neg (by simp [hb0])] ) he)
            clear he ha0 hb0
            go_wp2_with fail
            have bA := bel_new wr (.cells #[.int .i64 R3, .int .i64 C3, .slice c m3 k3] 24)
            refine (H3.out _ (below_both hBw bA)).mono ?_
            rintro e w2 ⟨rfl, b2⟩
            have BR := below_both hB (below_both bA b2)
            have G9 := GR.out.behind BR
            have g0 := G9.cell (i := 0) rfl
            have g1 := G9.cell (i := 1) rfl
            have g2 := G9.cell (i := 2) rfl
            have f0 := G9.f 0
            have f1 := G9.f 1
            have f2 := G9.f 2
            have HB9 := Lib.hid (below_both B0.out BR)
            clear G9
            go_wp2
            exact bodyPost_ret (v := .tuple #[.agg #[.int .i64 0, .int .i64 0, .slice none 0 0], .int .i64 fc]) (by simp [results, Try.results36, go_sem, g0, g1, g2]) rfl
              ⟨0, 0, none, 0, 0, by rw [HT.out.1], by rw [HT.out.2]; exact new_nil _ hpos (HB9.out.put3 (by omega) _ _ _), fun h => absurd (HT.out.1.symm.trans h) (by first | decide | exact HTN.out), HB9.out.put3 (by omega) _ _ _⟩
        · obtain rfl : z = 3 := hz
          have ha0 : fa = 0 := HE1.out (by omega)
          have hb0 : fb = 0 := HE2.out (by omega)
          have hc0 : fc = 0 := HE3.out (by omega)
          obtain ⟨e1, e2, e3⟩ := HFE.out
          rw [ha0] at e1
          rw [hb0] at e2
          rw [hc0] at e3
          obtain ⟨p1, q1, hp1, hq1⟩ := fin_nat e1
          obtain ⟨p2, q2, hp2, hq2⟩ := fin_nat e2
          obtain ⟨p3, q3, hp3, hq3⟩ := fin_nat e3
          subst hp1 hq1 hp2 hq2 hp3 hq3
          obtain ⟨hA, hB', hC, hx, hy, hz⟩ := HXX.out
          have hmx : m1 = xs.length := by
            obtain ⟨a', c', e⟩ := hA.slice
            simp only [Value.slice.injEq] at e
            omega
          have hmy : m2 = ys.length := by
            obtain ⟨a', c', e⟩ := hB'.slice
            simp only [Value.slice.injEq] at e
            omega
          have hmz : m3 = zs.length := by
            obtain ⟨a', c', e⟩ := hC.slice
            simp only [Value.slice.injEq] at e
            omega
          have hS : ¬ (tR ta q1 p1 = tR tb p2 q2 ∧ tR ta p1 q1 = p3 ∧ tR tb q2 p2 = q3) → E = 11 ∧ Z = [] := fun hn => by
            rcases HGA.out with ⟨h0, _⟩ | ⟨_, h1, _⟩ | ⟨_, r1, s1, r2, s2, r3, s3, g1, g2, g3, g4, g5, g6, _, _, _, _, h1, h2⟩ | ⟨_, r1, s1, r2, s2, r3, s3, g1, g2, g3, g4, g5, g6, _, _, _, h1, h2, h3, _⟩
            · rw [HNB.out] at h0; cases h0
            · exact absurd (by rw [e1, e2, e3]; rfl) h1
            · exact ⟨h1, h2⟩
            · obtain rfl : p1 = r1 := by omega
              obtain rfl : q1 = s1 := by omega
              obtain rfl : p2 = r2 := by omega
              obtain rfl : q2 = s2 := by omega
              obtain rfl : p3 = r3 := by omega
              obtain rfl : q3 = s3 := by omega
              exact absurd ⟨h1, h2, h3⟩ hn
          have hS4 : tR ta q1 p1 = tR tb p2 q2 → tR ta p1 q1 = p3 → tR tb q2 p2 = q3 → E = gaQ α β (gaP ta tb p1 q1 p2 q2 xs ys) zs ∧ Z = if E = 0 then gaU α β (gaP ta tb p1 q1 p2 q2 xs ys) zs else [] := fun k1 k2 k3 => by
            rcases HGA.out with ⟨h0, _⟩ | ⟨_, h1, _⟩ | ⟨_, r1, s1, r2, s2, r3, s3, g1, g2, g3, g4, g5, g6, _, _, _, h1, _⟩ | ⟨_, r1, s1, r2, s2, r3, s3, g1, g2, g3, g4, g5, g6, _, _, _, _, _, _, h1, h2⟩
            · rw [HNB.out] at h0; cases h0
            · exact absurd (by rw [e1, e2, e3]; rfl) h1
            · obtain rfl : p1 = r1 := by omega
              obtain rfl : q1 = s1 := by omega
              obtain rfl : p2 = r2 := by omega
              obtain rfl : q2 = s2 := by omega
              obtain rfl : p3 = r3 := by omega
              obtain rfl : q3 = s3 := by omega
              exact absurd ⟨k1, k2, k3⟩ h1
            · obtain rfl : p1 = r1 := by omega
              obtain rfl : q1 = s1 := by omega
              obtain rfl : p2 = r2 := by omega
              obtain rfl : q2 = s2 := by omega
              exact ⟨h1, h2⟩
          have HS := Lib.hid hS
          have HS4 := Lib.hid hS4
          have f1 := tX_fin (t := ta) (R := p1) (C := q1) (xs := xs) (by rw [← hmx]; exact e1)
          have f2 := tX_fin (t := tb) (R := p2) (C := q2) (xs := ys) (by rw [← hmy]; exact e2)
          rw [← hmx] at f1
          rw [← hmy] at f2
          have HTA : Hid (∀ W, Below W0.heap.size W0 W → Calls Try.prog 83 #[.agg #[.int .i64 (p1 : Int), .int .i64 (q1 : Int), .slice a m1 k1], .bool ta] W fun e W' => ∃ b c, e = .returned (.agg #[.int .i64 (tR ta p1 q1 : Int), .int .i64 (tR ta q1 p1 : Int), .slice b m1 c]) ∧ Sp w.heap.size W0.heap.size W' (.slice b m1 c) (tX ta p1 q1 xs) ∧ Below W.heap.size W W') := Lib.hid (fun W h =>
            gemm_turn (hA.behind (below_both B0.out h)) hx (finM_ok e1).1 w.heap.size W0.heap.size (by
              obtain ⟨S, hS, hR⟩ := hA
              exact ⟨S, hS, hR.kept ((below_both B0.out h).block S hS)⟩) h.size)
          have HTB : Hid (∀ W, Below W0.heap.size W0 W → Calls Try.prog 83 #[.agg #[.int .i64 (p2 : Int), .int .i64 (q2 : Int), .slice b m2 k2], .bool tb] W fun e W' => ∃ b c, e = .returned (.agg #[.int .i64 (tR tb p2 q2 : Int), .int .i64 (tR tb q2 p2 : Int), .slice b m2 c]) ∧ Sp w.heap.size W0.heap.size W' (.slice b m2 c) (tX tb p2 q2 ys) ∧ Below W.heap.size W W') := Lib.hid (fun W h =>
            gemm_turn (hB'.behind (below_both B0.out h)) hy (finM_ok e2).1 w.heap.size W0.heap.size (by
              obtain ⟨S, hS, hR⟩ := hB'
              exact ⟨S, hS, hR.kept ((below_both B0.out h).block S hS)⟩) h.size)
          have HPD : Hid (gaP ta tb p1 q1 p2 q2 xs ys = prodM (tR ta p1 q1) (tR ta q1 p1) (tR tb q2 p2) (tX ta p1 q1 xs) (tX tb p2 q2 ys)) := Lib.hid rfl
          have l1 := tX_low (t := ta) (R := p1) (C := q1) hx
          have l2 := tX_low (t := tb) (R := p2) (C := q2) hy
          generalize gaP ta tb p1 q1 p2 q2 xs ys = P at *
          generalize tX ta p1 q1 xs = XS at *
          generalize tX tb p2 q2 ys = YS at *
          generalize tR ta p1 q1 = ar at *
          generalize tR ta q1 p1 = ac at *
          generalize tR tb p2 q2 = br at *
          generalize tR tb q2 p2 = bc at *
          have HFN := Lib.hid (And.intro f1 (And.intro f2 (And.intro e3 (And.intro l1 (And.intro l2 (And.intro hz (And.intro hC hmz)))))))
          clear hS hS4 f1 f2 e1 e2 e3 l1 l2 hz hC hmx hmy hmz hA hB' hx hy ha0 hb0 hc0 H1 H2 H3 HFE HGA HXX HFIN HE1 HE2 HE3 HCA HCB y0 y1 y2 x0 x1
          obtain ⟨w1, rfl⟩ : ∃ wo, wo = wr := ⟨_, rfl⟩
          have K1 := HG1.out.behind hB
          have K2 := HG2.out.behind hB
          have K3 := HG3.out.behind hB
          have K4 := GR.out.behind hB
          have c0 := K1.cell (i := 0) rfl
          have c1 := K1.cell (i := 1) rfl
          have c2 := K1.cell (i := 2) rfl
          have d0 := K2.cell (i := 0) rfl
          have d1 := K2.cell (i := 1) rfl
          have d2 := K2.cell (i := 2) rfl
          go_upto_region 14 with (fail)
          go_cut [] from 49 to 54 (fun wx => ∃ (ab : Option Addr) (ak : Nat) (bb : Option Addr) (bk : Nat), Sp w.heap.size W0.heap.size wx (.slice ab m1 ak) XS ∧ Sp w.heap.size W0.heap.size wx (.slice bb m2 bk) YS ∧ Ms wx w.heap.size #[.int .i64 (ar : Int), .int .i64 (ac : Int), .slice ab m1 ak] 24 ∧ Ms wx (w.heap.size + 1) #[.int .i64 (br : Int), .int .i64 (bc : Int), .slice bb m2 bk] 24 ∧ Ms wx (w.heap.size + 2) #[.int .i64 (p3 : Int), .int .i64 (q3 : Int), .slice c m3 k3] 24 ∧ Ms wx (w.heap.size + 3) #[.int .i64 0, .int .i64 0, .slice none 0 0] 24 ∧ Below w.heap.size w wx ∧ W0.heap.size ≤ wx.heap.size)
          case first =>
           as_aux_lemma =>
            have f0 := K1.f 0
            have f1 := K1.f 1
            have f2 := K1.f 2
            have f3 := K2.f 0
            have f4 := K2.f 1
            have f5 := K2.f 2
            replace K1 := K1.drew
            replace K2 := K2.drew
            replace K3 := K3.drew
            replace K4 := K4.drew
            have BZ : Below W0.heap.size W0 w1.drew := hB.drew
            clear hB hBw
            go_region_with (first
              | (go_at_call 83; (with_reducible refine (HTA.out _ BZ).mono ?_); rintro e t1 ⟨ab, ak, rfl, RA, bq⟩; (try replace RB := RB.behind bq); replace BZ := below_both BZ bq; replace K1 := K1.behind bq; replace K2 := K2.behind bq; replace K3 := K3.behind bq; replace K4 := K4.behind bq; have c0 := K1.cell (i := 0) rfl; have c1 := K1.cell (i := 1) rfl; have c2 := K1.cell (i := 2) rfl; have d0 := K2.cell (i := 0) rfl; have d1 := K2.cell (i := 1) rfl; have d2 := K2.cell (i := 2) rfl; have f0 := K1.f 0; have f1 := K1.f 1; have f2 := K1.f 2; have f3 := K2.f 0; have f4 := K2.f 1; have f5 := K2.f 2)
              | (go_at_call 83; (with_reducible refine (HTB.out _ BZ).mono ?_); rintro e t2 ⟨bb, bk, rfl, RB, bq⟩; (try replace RA := RA.behind bq); replace BZ := below_both BZ bq; replace K1 := K1.behind bq; replace K2 := K2.behind bq; replace K3 := K3.behind bq; replace K4 := K4.behind bq; have c0 := K1.cell (i := 0) rfl; have c1 := K1.cell (i := 1) rfl; have c2 := K1.cell (i := 2) rfl; have d0 := K2.cell (i := 0) rfl; have d1 := K2.cell (i := 1) rfl; have d2 := K2.cell (i := 2) rfl; have f0 := K1.f 0; have f1 := K1.f 1; have f2 := K1.f 2; have f3 := K2.f 0; have f4 := K2.f 1; have f5 := K2.f 2))
            all_goals clear c0 c1 c2 d0 d1 d2 f0 f1 f2 f3 f4 f5
            all_goals
              go_wp2_with fail
              go_meet
              case rel =>
                have hs4 := HSZ.out
                have bz := BZ.size
                have n1 : w.heap.size ≠ w.heap.size + 1 := by omega
                exact ⟨ab, ak, bb, bk, (RA.put3 (by omega) (by omega)).put3 (by omega) (by omega), (RB.put3 (by omega) (by omega)).put3 (by omega) (by omega), ms_past3 (ms_put3 K1) n1, ms_put3 (ms_past3 K2 n1.symm), ms_past3 (ms_past3 K3 (by omega)) (by omega), ms_past3 (ms_past3 K4 (by omega)) (by omega), ((below_both B0.out BZ).put3 (by omega) _ _ _).put3 (by omega) _ _ _, by simp only [World.size_setCell]; exact bz⟩
          obtain ⟨ab, ak, bb, bk, RA, RB, K1, K2, K3, K4, BW, hszw⟩ := hcut
          obtain ⟨w2, rfl⟩ : ∃ wo, wo = wc := ⟨_, rfl⟩
          have c0 := K1.cell (i := 0) rfl
          have c1 := K1.cell (i := 1) rfl
          have c2 := K1.cell (i := 2) rfl
          have d0 := K2.cell (i := 0) rfl
          have d1 := K2.cell (i := 1) rfl
          have d2 := K2.cell (i := 2) rfl
          have v0 := K3.cell (i := 0) rfl
          have v1 := K3.cell (i := 1) rfl
          have v2 := K3.cell (i := 2) rfl
          clear hB hBw HTA HTB HG1 HG2 HG3 GR
          by_cases s1 : ac = br
          · by_cases s2 : ar = p3
            · by_cases s3 : bc = q3
              · have q1' : ((ac : Int) != (br : Int)) = false := by simp [s1]
                have q2' : ((ar : Int) != (p3 : Int)) = false := by simp [s2]
                have q3' : ((bc : Int) != (q3 : Int)) = false := by simp [s3]
                obtain ⟨hE4, hZ4⟩ := HS4.out s1 s2 s3
                obtain ⟨f1, f2, f3, l1, l2, hz, hC, hmz⟩ := HFN.out
                subst s1 s2 s3
                have HMU := Lib.hid (gemm_multiply (R := ar) (K := ac) (C := bc) RA.arg RB.arg l1 l2 f1 f2)
                have hm3 := (finM_ok f3).1
                obtain ⟨u1, u2, u3, u4, u5⟩ := mayM_iff.1 hm3
                have hmr : m3 = ar * bc := by rw [← Int.natCast_mul] at u5; omega
                have hPl : P.length = ar * bc := by rw [HPD.out, prodM_length]
                have hPL : Low 18446744073709551616 P := by rw [HPD.out]; exact prodM_low _ _ _ _ _
                rw [← HPD.out] at HMU
                have hmP : mayM ar bc P.length = true := mayM_iff.2 ⟨u1, u2, u3, u4, by rw [hPl, Int.natCast_mul]⟩
                have hfP := finM_may hmP
                have hSl : (scalV α P).length = P.length := rowV_length _ _
                have hTl : (scalV β zs).length = zs.length := rowV_length _ _
                have hSL : Low 18446744073709551616 (scalV α P) := rowV_low fun i _ => timesU_lt _ _
                have hTL : Low 18446744073709551616 (scalV β zs) := rowV_low fun i _ => timesU_lt _ _
                have hnα : nfE α = 0 := by unfold nfE; rw [if_neg (by have := HOK.out.1; omega)]
                have hnβ : nfE β = 0 := by unfold nfE; rw [if_neg (by have := HOK.out.2; omega)]
                have hfS := finM_may (R := (ar : Int)) (C := (bc : Int)) (ws := scalV α P) (by rw [hSl]; exact hmP)
                have hfT := finM_may (R := (ar : Int)) (C := (bc : Int)) (ws := scalV β zs) (by rw [hTl, ← hmz]; exact hm3)
                have HSC1 := Lib.hid (fun (W : World) (b : Option Addr) (cc : Nat) (hb : Arg W (.slice b P.length cc) P) => mat_scale (R := (ar : Int)) (C := (bc : Int)) hα hb hPL)
                have HSC2 := Lib.hid (fun (W : World) (h : Below w.heap.size w W) => mat_scale (R := (ar : Int)) (C := (bc : Int)) hβ (hC.behind h) hz)
                have HAD := Lib.hid (fun (W : World) (b1 b2 : Option Addr) (cc1 cc2 : Nat) (hb1 : Arg W (.slice b1 (scalV α P).length cc1) (scalV α P)) (hb2 : Arg W (.slice b2 (scalV β zs).length cc2) (scalV β zs)) => mat_add (R := (ar : Int)) (C := (bc : Int)) (R' := (ar : Int)) (C' := (bc : Int)) hb1 hb2 hSL hTL)
                have hscf1 : finB P P.length = true → scF ar bc P.length P α = 0 := fun h => by unfold scF; rw [hfP, h, hnα]; rfl
                have hscf2 : scF ar bc m3 zs β = 0 := by unfold scF; rw [f3, hnβ]; rfl
                have hadf : finB (scalV α P) (scalV α P).length = true → finB (scalV β zs) (scalV β zs).length = true → pairF ar bc (scalV α P).length (scalV α P) ar bc (scalV β zs).length (scalV β zs) = 0 := fun h1 h2 => by
                  unfold pairF sidesE
                  rw [hfS, hfT, h1, h2, if_neg (show ¬ ((ar : Int) ≠ (ar : Int) ∨ (bc : Int) ≠ (bc : Int)) by simp)]; rfl
                have HF1 := Lib.hid hscf1
                have HF3 := Lib.hid hadf
                have HPE := Lib.hid (tellV_yes (want := P))
                have HSE := Lib.hid (tellV_yes (want := scalV α P))
                have HTE := Lib.hid (tellV_yes (want := scalV β zs))
                have HUE := Lib.hid (tellV_yes (want := gaU α β P zs))
                rw [hscf2] at HSC2
                have HQE := Lib.hid hE4
                have HQZ := Lib.hid hZ4
                have HUD : Hid (pairV plusU (scalV α P) (scalV β zs) = gaU α β P zs) := Lib.hid rfl
                rw [HUD.out] at HAD
                have HNO : Hid (E ≠ 0 → Z = []) := Lib.hid (fun h => by rw [hZ4, if_neg h])
                clear hscf1 hscf2 hadf hE4 hZ4 f1 f2 f3 l1 l2 hz hC hmz u1 u2 u3 u4 u5 hmr hPl hPL hmP hfP hSl hTl hSL hTL hnα hnβ hfS hfT hm3 HS HS4 HFN HPD RA RB HUD
                go_wp2_with fail
                refine HMU.out.mono ?_
                rintro e w3 ⟨R5, C5, b5, n5, c5, rfl, hN5, hR5, b3⟩
                obtain ⟨j5, K5⟩ := mbox w3 #[.int .i64 R5, .int .i64 C5, .slice b5 n5 c5] 24 _ rfl
                have b4 := below_both b3 j5
                have A5 := Lib.hid (hN5.arg.behind j5)
                have hsz5 : w.heap.size + 3 < w3.heap.size := Nat.lt_of_lt_of_le K4.lt b3.size
                replace BW := below_both BW b4
                replace K3 := K3.behind b4
                replace K4 := K4.behind b4
                have HR5 := Lib.hid hR5
                clear HMU hN5 hR5 b3 b4 j5 c0 c1 c2 d0 d1 d2 v0 v1 v2 K1 K2
                go_upto_if 82 with (fail)
                generalize w3.alloc (.cells #[.int .i64 R5, .int .i64 C5, .slice b5 n5 c5] 24) = w4 at *
                have HBW := Lib.hid BW
                cases hP : finB P P.length
                · as_aux_lemma =>
                  have hE1 : tellV P 0 = 13 := by rw [HPE.out, hP]; rfl
                  have HT : Hid (E = 13 ∧ Z = []) := Lib.hid (by
                    have : E = 13 := by rw [HQE.out]; unfold gaQ; rw [hP]; simp
                    exact ⟨this, HNO.out (by rw [this]; decide)⟩)
                  rw [hE1]
                  clear hE1 hP
                  have g0 := K4.cell (i := 0) rfl
                  have g1 := K4.cell (i := 1) rfl
                  have g2 := K4.cell (i := 2) rfl
                  have f0 := K4.f 0
                  have f1 := K4.f 1
                  have f2 := K4.f 2
                  have HB9 := Lib.hid BW
                  clear K4
                  go_wp2
                  exact bodyPost_ret (v := .tuple #[.agg #[.int .i64 0, .int .i64 0, .slice none 0 0], .int .i64 13]) (by simp [results, Try.results36, go_sem, g0, g1, g2]) rfl
                    ⟨0, 0, none, 0, 0, by rw [HT.out.1], by rw [HT.out.2]; exact new_nil _ hpos (HB9.out.put3 (by omega) _ _ _), fun h => absurd (HT.out.1.symm.trans h) (by decide), HB9.out.put3 (by omega) _ _ _⟩
                · have hE1 : tellV P 0 = 0 := by rw [HPE.out, hP]; rfl
                  rw [hE1] at HR5 A5 ⊢
                  obtain ⟨rfl, rfl⟩ := HR5.out rfl
                  rw [if_pos rfl] at A5
                  obtain rfl : n5 = P.length := by
                    obtain ⟨a8, c8, e8⟩ := A5.out.slice
                    simp only [Value.slice.injEq] at e8
                    exact e8.2.1
                  have hS1 := HSC1.out _ _ _ A5.out
                  rw [HF1.out hP] at hS1
                  have HP := Lib.hid hP
                  have c0 := K5.cell (i := 0) rfl
                  have c1 := K5.cell (i := 1) rfl
                  have c2 := K5.cell (i := 2) rfl
                  have t0 := K5.f 0
                  have t1 := K5.f 1
                  have t2 := K5.f 2
                  clear hE1 hP HR5 HSC1
                  go_wp2_with fail
                  refine hS1.mono ?_
                  rintro e w5 ⟨R6, C6, b6, n6, c6, rfl, hN6, hR6, b5'⟩
                  have hk4 := K5.lt
                  have A6 := hN6.arg
                  replace K5 := K5.behind b5'
                  replace K3 := K3.behind b5'
                  replace K4 := K4.behind b5'
                  replace BW := below_both BW b5'
                  have c0 := K5.cell (i := 0) rfl
                  have c1 := K5.cell (i := 1) rfl
                  have c2 := K5.cell (i := 2) rfl
                  have t0 := K5.f 0
                  have t1 := K5.f 1
                  have t2 := K5.f 2
                  have HR6 := Lib.hid hR6
                  have hb5 := b5'.size
                  have hk5 := K5.lt
                  obtain ⟨S6, hRd6, hS6, ho6⟩ := hN6
                  clear A6 hR6 b5' hS1
                  -- the box of the product is written to
                  have K5' := ms_put3 (x := .int .i64 R6) (y := .int .i64 C6) (z := .slice b6 n6 c6) K5
                  have K3' := ms_past3 (h := w3.heap.size) (x := .int .i64 R6) (y := .int .i64 C6) (z := .slice b6 n6 c6) K3 (by omega)
                  have K4' := ms_past3 (h := w3.heap.size) (x := .int .i64 R6) (y := .int .i64 C6) (z := .slice b6 n6 c6) K4 (by omega)
                  have BW' := BW.put3 (g := w3.heap.size) (by omega) (.int .i64 R6) (.int .i64 C6) (.slice b6 n6 c6)
                  have A6' : Arg (((w5.setCell ⟨w3.heap.size, 0, none⟩ (.int .i64 R6)).setCell ⟨w3.heap.size, 1, none⟩ (.int .i64 C6)).setCell ⟨w3.heap.size, 2, none⟩ (.slice b6 n6 c6)) (.slice b6 n6 c6) (if tellV (scalV α P) 0 = 0 then scalV α P else []) := by
                    rcases ho6 with ho6 | ho6
                    · refine ⟨w3.heap.size, by simp only [World.size_setCell]; exact hk5, ?_⟩
                      rw [ho6] at hRd6 ⊢
                      obtain ⟨sa, sc, es, _, _⟩ := hRd6.slice
                      simp only [Value.slice.injEq] at es
                      have hnil : (if tellV (scalV α P) 0 = 0 then scalV α P else []) = [] := List.length_eq_zero_iff.1 es.2.1.symm
                      rw [hnil]
                      exact .inl ⟨⟨_, _, rfl⟩, rfl⟩
                    · exact ⟨S6, by simp only [World.size_setCell]; exact hS6, hRd6.kept (heap_put3 (by omega))⟩
                  go_upto_if 92 with (fail)
                  generalize ((w5.setCell ⟨w3.heap.size, 0, none⟩ (.int .i64 R6)).setCell ⟨w3.heap.size, 1, none⟩ (.int .i64 C6)).setCell ⟨w3.heap.size, 2, none⟩ (.slice b6 n6 c6) = w6 at *
                  have HBW2 := Lib.hid BW'
                  have HA6 := Lib.hid A6'
                  clear K5 K3 K4 BW A6' hRd6 hS6 ho6 c0 c1 c2 t0 t1 t2 hb5 hk5 hk4 A5
                  cases hS : finB (scalV α P) (scalV α P).length
                  · as_aux_lemma =>
                    have hE1 : tellV (scalV α P) 0 = 13 := by rw [HSE.out, hS]; rfl
                    have HT : Hid (E = 13 ∧ Z = []) := Lib.hid (by
                      have : E = 13 := by rw [HQE.out]; unfold gaQ; rw [hS]; simp
                      exact ⟨this, HNO.out (by rw [this]; decide)⟩)
                    rw [hE1]
                    clear hE1 hS
                    have g0 := K4'.cell (i := 0) rfl
                    have g1 := K4'.cell (i := 1) rfl
                    have g2 := K4'.cell (i := 2) rfl
                    have f0 := K4'.f 0
                    have f1 := K4'.f 1
                    have f2 := K4'.f 2
                    clear K4'
                    go_wp2
                    exact bodyPost_ret (v := .tuple #[.agg #[.int .i64 0, .int .i64 0, .slice none 0 0], .int .i64 13]) (by simp [results, Try.results36, go_sem, g0, g1, g2]) rfl
                      ⟨0, 0, none, 0, 0, by rw [HT.out.1], by rw [HT.out.2]; exact new_nil _ hpos (HBW2.out.put3 (by omega) _ _ _), fun h => absurd (HT.out.1.symm.trans h) (by decide), HBW2.out.put3 (by omega) _ _ _⟩
                  · have hE1 : tellV (scalV α P) 0 = 0 := by rw [HSE.out, hS]; rfl
                    rw [hE1] at HR6 HA6 ⊢
                    rw [if_pos rfl] at HA6
                    obtain ⟨rfl, rfl⟩ := HR6.out rfl
                    obtain rfl : n6 = (scalV α P).length := by
                      obtain ⟨a8, c8, e8⟩ := HA6.out.slice
                      simp only [Value.slice.injEq] at e8
                      exact e8.2.1
                    have HS := Lib.hid hS
                    have c0 := K5'.cell (i := 0) rfl
                    have c1 := K5'.cell (i := 1) rfl
                    have c2 := K5'.cell (i := 2) rfl
                    have v0 := K3'.cell (i := 0) rfl
                    have v1 := K3'.cell (i := 1) rfl
                    have v2 := K3'.cell (i := 2) rfl
                    clear hE1 hS HR6
                    go_wp2_with fail
                    refine (HSC2.out _ HBW2.out).mono ?_
                    rintro e w7 ⟨R8, C8, b8, n8, c8, rfl, hN8, hR8, b8'⟩
                    obtain ⟨j8, K8⟩ := mbox w7 #[.int .i64 R8, .int .i64 C8, .slice b8 n8 c8] 24 _ rfl
                    have b9 := below_both b8' j8
                    have A8 := Lib.hid (hN8.arg.behind j8)
                    replace HA6 := Lib.hid (HA6.out.behind b9)
                    replace K4' := K4'.behind b9
                    replace K5' := K5'.behind b9
                    have BW8 := below_both HBW2.out b9
                    have HR8 := Lib.hid hR8
                    clear hN8 hR8 b8' j8 b9 c0 c1 c2 v0 v1 v2 K3' HBW2 BW'
                    go_upto_if 102 with (fail)
                    generalize w7.alloc (.cells #[.int .i64 R8, .int .i64 C8, .slice b8 n8 c8] 24) = w8 at *
                    have HBW2 := Lib.hid BW8
                    cases hT : finB (scalV β zs) (scalV β zs).length
                    · as_aux_lemma =>
                      have hE1 : tellV (scalV β zs) 0 = 13 := by rw [HTE.out, hT]; rfl
                      have HT : Hid (E = 13 ∧ Z = []) := Lib.hid (by
                        have : E = 13 := by rw [HQE.out]; unfold gaQ; rw [hT]; simp
                        exact ⟨this, HNO.out (by rw [this]; decide)⟩)
                      rw [hE1]
                      clear hE1 hT
                      have g0 := K4'.cell (i := 0) rfl
                      have g1 := K4'.cell (i := 1) rfl
                      have g2 := K4'.cell (i := 2) rfl
                      have f0 := K4'.f 0
                      have f1 := K4'.f 1
                      have f2 := K4'.f 2
                      clear K4'
                      go_wp2
                      exact bodyPost_ret (v := .tuple #[.agg #[.int .i64 0, .int .i64 0, .slice none 0 0], .int .i64 13]) (by simp [results, Try.results36, go_sem, g0, g1, g2]) rfl
                        ⟨0, 0, none, 0, 0, by rw [HT.out.1], by rw [HT.out.2]; exact new_nil _ hpos (HBW2.out.put3 (by omega) _ _ _), fun h => absurd (HT.out.1.symm.trans h) (by decide), HBW2.out.put3 (by omega) _ _ _⟩
                    · as_aux_lemma =>
                      have hE1 : tellV (scalV β zs) 0 = 0 := by rw [HTE.out, hT]; rfl
                      rw [hE1] at HR8 A8 ⊢
                      rw [if_pos rfl] at A8
                      obtain ⟨rfl, rfl⟩ := HR8.out rfl
                      obtain rfl : n8 = (scalV β zs).length := by
                        obtain ⟨a8, c8, e8⟩ := A8.out.slice
                        simp only [Value.slice.injEq] at e8
                        exact e8.2.1
                      have hAD := HAD.out _ _ _ _ _ HA6.out A8.out
                      rw [HF3.out HS.out hT] at hAD
                      have hEE : tellV (gaU α β P zs) 0 = E := by
                        rw [HUE.out, HQE.out]; unfold gaQ; rw [HP.out, HS.out, hT]
                        cases finB (gaU α β P zs) (gaU α β P zs).length <;> rfl
                      rw [hEE, ← HQZ.out] at hAD
                      have c0 := K5'.cell (i := 0) rfl
                      have c1 := K5'.cell (i := 1) rfl
                      have c2 := K5'.cell (i := 2) rfl
                      have v0 := K8.cell (i := 0) rfl
                      have v1 := K8.cell (i := 1) rfl
                      have v2 := K8.cell (i := 2) rfl
                      clear hE1 hT HR8 hEE HQE HQZ HNO
                      go_wp2_with fail
                      refine hAD.mono ?_
                      rintro e w9 ⟨R9, C9, b9, n9, c9, rfl, hN9, hR9, b9'⟩
                      have K9 := K4'.behind b9'
                      have g0 := K9.cell (i := 0) rfl
                      have g1 := K9.cell (i := 1) rfl
                      have g2 := K9.cell (i := 2) rfl
                      have f0 := K9.f 0
                      have f1 := K9.f 1
                      have f2 := K9.f 2
                      have HNN := Lib.hid hN9
                      have HRR := Lib.hid hR9
                      have HB9 := Lib.hid (below_both HBW2.out b9')
                      have hlt := K4'.lt
                      clear hAD hN9 hR9 b9' K9
                      go_wp2
                      exact bodyPost_ret (v := .tuple #[.agg #[.int .i64 R9, .int .i64 C9, .slice b9 n9 c9], .int .i64 E]) (by simp [results, Try.results36, go_sem, g0, g1, g2]) rfl
                        ⟨R9, C9, b9, n9, c9, rfl, (HNN.out.put3 hlt _ _ _).lower HBW2.out.size, HRR.out, HB9.out.put3 (by omega) _ _ _⟩
              · as_aux_lemma =>
                have HT := Lib.hid (HS.out (fun h => s3 h.2.2))
                have q1' : ((ac : Int) != (br : Int)) = false := by simp [s1]
                have q2' : ((ar : Int) != (p3 : Int)) = false := by simp [s2]
                have q3' : ((bc : Int) != (q3 : Int)) = true := bne_iff_ne.2 (by omega)
                have HBW2 := Lib.hid BW
                have K4' := K4
                clear s1 s2 s3 HS HS4 K4
                have g0 := K4'.cell (i := 0) rfl
                have g1 := K4'.cell (i := 1) rfl
                have g2 := K4'.cell (i := 2) rfl
                have f0 := K4'.f 0
                have f1 := K4'.f 1
                have f2 := K4'.f 2
                clear K4'
                go_wp2
                exact bodyPost_ret (v := .tuple #[.agg #[.int .i64 0, .int .i64 0, .slice none 0 0], .int .i64 11]) (by simp [results, Try.results36, go_sem, g0, g1, g2]) rfl
                  ⟨0, 0, none, 0, 0, by rw [HT.out.1], by rw [HT.out.2]; exact new_nil _ hpos (HBW2.out.put3 (by omega) _ _ _), fun h => absurd (HT.out.1.symm.trans h) (by decide), HBW2.out.put3 (by omega) _ _ _⟩
            · as_aux_lemma =>
              have HT := Lib.hid (HS.out (fun h => s2 h.2.1))
              have q1' : ((ac : Int) != (br : Int)) = false := by simp [s1]
              have q2' : ((ar : Int) != (p3 : Int)) = true := bne_iff_ne.2 (by omega)
              have HBW2 := Lib.hid BW
              have K4' := K4
              clear s1 s2 HS HS4 K4
              have g0 := K4'.cell (i := 0) rfl
              have g1 := K4'.cell (i := 1) rfl
              have g2 := K4'.cell (i := 2) rfl
              have f0 := K4'.f 0
              have f1 := K4'.f 1
              have f2 := K4'.f 2
              clear K4'
              go_wp2
              exact bodyPost_ret (v := .tuple #[.agg #[.int .i64 0, .int .i64 0, .slice none 0 0], .int .i64 11]) (by simp [results, Try.results36, go_sem, g0, g1, g2]) rfl
                ⟨0, 0, none, 0, 0, by rw [HT.out.1], by rw [HT.out.2]; exact new_nil _ hpos (HBW2.out.put3 (by omega) _ _ _), fun h => absurd (HT.out.1.symm.trans h) (by decide), HBW2.out.put3 (by omega) _ _ _⟩
          · as_aux_lemma =>
            have HT := Lib.hid (HS.out (fun h => s1 h.1))
            have q1' : ((ac : Int) != (br : Int)) = true := bne_iff_ne.2 (by omega)
            have HBW2 := Lib.hid BW
            have K4' := K4
            clear s1 HS HS4 K4
            have g0 := K4'.cell (i := 0) rfl
            have g1 := K4'.cell (i := 1) rfl
            have g2 := K4'.cell (i := 2) rfl
            have f0 := K4'.f 0
            have f1 := K4'.f 1
            have f2 := K4'.f 2
            clear K4'
            go_wp2
            exact bodyPost_ret (v := .tuple #[.agg #[.int .i64 0, .int .i64 0, .slice none 0 0], .int .i64 11]) (by simp [results, Try.results36, go_sem, g0, g1, g2]) rfl
              ⟨0, 0, none, 0, 0, by rw [HT.out.1], by rw [HT.out.2]; exact new_nil _ hpos (HBW2.out.put3 (by omega) _ _ _), fun h => absurd (HT.out.1.symm.trans h) (by decide), HBW2.out.put3 (by omega) _ _ _⟩
end Go.Proofs.Ytdcebkhdnhdejaa
