/- pivot: exchange. -/
import Derived.Test.YtjljmccdlkdgoaaPiSeq
import Derived.Test.YtjljmccdlkdgoaaOw
import Derived.Test.YtjljmccdlkdgoaaMaNum
import Derived.Deep.RegionHeld3
import Derived.Deep.DeepCutAuto
namespace Go.Proofs.Ytjljmccdlkdgoaa
open Go.RowKit Go.Shelf
attribute [local go_sem] Oper.semAt_some
def swpR (i k r : Nat) : Nat := if r = i then k else if r = k then i else r
/-- rows i and k have changed places in the first j columns -/
def swpC (C i k j : Nat) (xs : List Nat) : List Nat := rowV xs.length fun p => if p % C < j then lim xs (swpR i k (p / C) * C + p % C) else lim xs p
theorem swpC_length (C i k j : Nat) (xs : List Nat) : (swpC C i k j xs).length = xs.length := rowV_length _ _
theorem swpC_zero (C i k : Nat) (xs : List Nat) : swpC C i k 0 xs = xs := ext_lim (swpC_length _ _ _ _ _) fun p hp => by
  rw [swpC_length] at hp
  unfold swpC
  rw [rowV_lim _ hp, if_neg (by omega)]
theorem pl_div {C i j : Nat} (h : j < C) : (i * C + j) / C = i ∧ (i * C + j) % C = j :=
  ⟨by rw [Nat.mul_comm, Nat.mul_add_div (by omega), Nat.div_eq_of_lt h, Nat.add_zero], by rw [Nat.mul_comm, Nat.mul_add_mod, Nat.mod_eq_of_lt h]⟩
theorem pl_lt {R C i j : Nat} (hi : i < R) (hj : j < C) : i * C + j < R * C := by
  have := Nat.mul_le_mul_right C (show i + 1 ≤ R from hi)
  rw [Nat.add_mul, Nat.one_mul] at this
  omega
theorem swpC_succ {R C i k j : Nat} {xs : List Nat} (hl : xs.length = R * C) (hi : i < R) (hk : k < R) (hj : j < C) :
    swpC C i k (j + 1) xs = ((swpC C i k j xs).set (i * C + j) (lim (swpC C i k j xs) (k * C + j))).set (k * C + j) (lim (swpC C i k j xs) (i * C + j)) := by
  have hA := pl_lt hi hj
  have hB := pl_lt hk hj
  obtain ⟨dA, mA⟩ := pl_div (i := i) hj
  obtain ⟨dB, mB⟩ := pl_div (i := k) hj
  have vA : lim (swpC C i k j xs) (i * C + j) = lim xs (i * C + j) := by
    unfold swpC; rw [rowV_lim _ (by omega), mA, if_neg (by omega)]
  have vB : lim (swpC C i k j xs) (k * C + j) = lim xs (k * C + j) := by
    unfold swpC; rw [rowV_lim _ (by omega), mB, if_neg (by omega)]
  refine ext_lim (by rw [swpC_length, List.length_set, List.length_set, swpC_length]) fun p hp => ?_
  rw [swpC_length] at hp
  rw [lim_set, lim_set, vA, vB]
  simp only [List.length_set, swpC_length]
  have hC : 0 < C := by omega
  have hp0 := Nat.div_add_mod p C
  have hpm := Nat.mod_lt p hC
  by_cases c1 : p % C = j
  · have hpp : p = p / C * C + j := by rw [Nat.mul_comm] at hp0; omega
    have hL : lim (swpC C i k (j + 1) xs) p = lim xs (swpR i k (p / C) * C + j) := by unfold swpC; rw [rowV_lim _ hp, if_pos (by omega), c1]
    have hS : lim (swpC C i k j xs) p = lim xs p := by unfold swpC; rw [rowV_lim _ hp, if_neg (by omega)]
    rw [hL, hS]
    by_cases e2 : p = k * C + j
    · rw [if_pos ⟨e2, by omega⟩]
      have : p / C = k := by rw [e2]; exact dB
      unfold swpR
      rw [this]
      by_cases e3 : k = i
      · rw [if_pos e3, e3]
      · rw [if_neg e3, if_pos rfl]
    · rw [if_neg (fun h => e2 h.1)]
      by_cases e1 : p = i * C + j
      · rw [if_pos ⟨e1, by omega⟩]
        have : p / C = i := by rw [e1]; exact dA
        unfold swpR
        rw [this, if_pos rfl]
      · rw [if_neg (fun h => e1 h.1)]
        unfold swpR
        rw [if_neg (fun e => e1 (by rw [← e]; exact hpp)), if_neg (fun e => e2 (by rw [← e]; exact hpp)), ← hpp]
  · have n1 : p ≠ i * C + j := fun e => c1 (by rw [e]; exact mA)
    have n2 : p ≠ k * C + j := fun e => c1 (by rw [e]; exact mB)
    rw [if_neg (fun h => n2 h.1), if_neg (fun h => n1 h.1)]
    unfold swpC
    rw [rowV_lim _ hp, rowV_lim _ hp]
    by_cases c2 : p % C < j
    · rw [if_pos c2, if_pos (by omega)]
    · rw [if_neg c2, if_neg (by omega)]
/-- behind the first n swaps -/
def exL (C : Nat) (f g : Nat → Int) (xs : List Nat) : Nat → List Nat
  | 0 => xs
  | n + 1 => swpC C (f n).toNat (g n).toNat C (exL C f g xs n)
theorem exL_length (C : Nat) (f g : Nat → Int) (xs : List Nat) (n : Nat) : (exL C f g xs n).length = xs.length := by
  induction n with
  | zero => rfl
  | succ n ih => unfold exL; rw [swpC_length, ih]
theorem swpC_low {C i k j : Nat} {xs : List Nat} (h : Low 18446744073709551616 xs) : Low 18446744073709551616 (swpC C i k j xs) := rowV_low fun p _ => by
  have a := lim_lt h (by decide) (swpR i k (p / C) * C + p % C)
  have b := lim_lt h (by decide) p
  split <;> omega
theorem exL_low {C : Nat} {f g : Nat → Int} {xs : List Nat} (h : Low 18446744073709551616 xs) (n : Nat) : Low 18446744073709551616 (exL C f g xs n) := by
  induction n with
  | zero => exact h
  | succ n ih => unfold exL; exact swpC_low ih
def goodP (R : Int) (f g : Nat → Int) (k : Nat) : Prop := inB (f k) R = true ∧ inB (g k) R = true
theorem steady_own {B₀ base : Nat} {k : IntKind} {t : TypeId} {v : Value} {zs : List Int} : Steady B₀ (fun W => OwnK k t base W v zs) := fun _ W W' row hs hg hr => by
  obtain ⟨h1, h2⟩ := hs
  refine ⟨h1, ?_⟩
  rcases h2 with h2 | ⟨g, cap, cur, e, hb, hh, h3⟩
  · exact .inl h2
  · exact .inr ⟨g, cap, cur, e, hb, steady_block () W W' row hh hg hr, h3⟩
theorem steady_ms {B₀ k : Nat} {cs : Array Value} {t : TypeId} : Steady B₀ (fun W => Ms W k cs t) := steady_block
/-- where exchange stands -/
structure ExI (R C m : Nat) (a : Option Addr) (cap B q c7 g7 : Nat) (w : World) (L : List Nat) (W : World) : Prop where
  ow : OwnK .u64 32 B W (.slice (some ⟨q, 0, none⟩) m c7) (zn L)
  k0 : Ms W w.heap.size #[.int .i64 (R : Int), .int .i64 (C : Int), .slice a m cap] 24
  k1 : Ms W (w.heap.size + 1) #[.int .i64 0, .int .i64 0, .slice none 0 0] 24
  k2 : Ms W (w.heap.size + 2) #[.int .i64 0] 26
  k7 : Ms W g7 #[.int .i64 (R : Int), .int .i64 (C : Int), .slice (some ⟨q, 0, none⟩) m c7] 24
  be : Below w.heap.size w W
theorem exI_steady {R C m : Nat} {a : Option Addr} {cap B q c7 g7 B₀ : Nat} {w : World} (L : List Nat) (hB : w.heap.size ≤ B₀) : Steady B₀ (ExI R C m a cap B q c7 g7 w L) := fun u W W' row hs hg hr =>
  ⟨steady_own u W W' row hs.ow hg hr, steady_ms u W W' row hs.k0 hg hr, steady_ms u W W' row hs.k1 hg hr, steady_ms u W W' row hs.k2 hg hr, steady_ms u W W' row hs.k7 hg hr, steady_below hB (Nat.le_refl _) u W W' row hs.be hg hr⟩
theorem ExI.put {R C m : Nat} {a : Option Addr} {cap B q c7 g7 : Nat} {w : World} {L L' : List Nat} {W : World} (h : ExI R C m a cap B q c7 g7 w L W) (hq : w.heap.size + 2 < q) (h7 : g7 ≠ q) {A : Nat} {z : Nat} (hL : L' = L.set A z) : ExI R C m a cap B q c7 g7 w L' (W.setCell ⟨q, A, none⟩ (.int .u64 (z : Int))) := by
  subst hL
  refine ⟨?_, h.k0.put (p := ⟨q, A, none⟩) (by show w.heap.size ≠ q; omega) _, h.k1.put (p := ⟨q, A, none⟩) (by show w.heap.size + 1 ≠ q; omega) _, h.k2.put (p := ⟨q, A, none⟩) (by show w.heap.size + 2 ≠ q; omega) _, h.k7.put (p := ⟨q, A, none⟩) h7 _, h.be.setCell (p := ⟨q, A, none⟩) (by show w.heap.size ≤ q; omega) _⟩
  rw [zn_set]
  exact h.ow.set A _
theorem ExI.drew {R C m : Nat} {a : Option Addr} {cap B q c7 g7 : Nat} {w : World} {L : List Nat} {W : World} (h : ExI R C m a cap B q c7 g7 w L W) : ExI R C m a cap B q c7 g7 w L W.drew :=
  ⟨h.ow.drew, h.k0.drew, h.k1.drew, h.k2.drew, h.k7.drew, h.be.drew⟩
structure ExZ (R : Int) (len : Nat) (f g : Nat → Int) (w : World) (c : Code) (W : World) : Prop where
  ret : c = .ret
  bad : ¬ ∀ k, k < len → goodP R f g k
  k1 : Ms W (w.heap.size + 1) #[.int .i64 0, .int .i64 0, .slice none 0 0] 24
  k2 : Ms W (w.heap.size + 2) #[.int .i64 4] 26
  be : Below w.heap.size w W
theorem exZ_steady {R : Int} {len : Nat} {f g : Nat → Int} {w : World} {B₀ : Nat} (hB : w.heap.size ≤ B₀) (c : Code) : Steady B₀ (ExZ R len f g w c) := fun u W W' row hs hg hr =>
  ⟨hs.ret, hs.bad, steady_ms u W W' row hs.k1 hg hr, steady_ms u W W' row hs.k2 hg hr, steady_below hB (Nat.le_refl _) u W W' row hs.be hg hr⟩
theorem ex_put3 {W : World} {g : Nat} {a b c x y z : Value} {t : TypeId} (hM : Ms W g #[a, b, c] t) : Ms (((W.setCell ⟨g, 0, none⟩ x).setCell ⟨g, 1, none⟩ y).setCell ⟨g, 2, none⟩ z) g #[x, y, z] t := ((hM.set 0 x).set 1 y).set 2 z
theorem ex_new {W v : World} {cs : Array Value} {t : TypeId} (h : Below (W.alloc (.cells cs t)).heap.size (W.alloc (.cells cs t)) v) : Ms v W.heap.size cs t := (mbox W cs t _ rfl).2.behind h
theorem ex_newd {W v : World} {cs : Array Value} {t : TypeId} (h : Below (W.alloc (.cells cs t)).drew.heap.size (W.alloc (.cells cs t)).drew v) : Ms v W.heap.size cs t := (show Ms (W.alloc (.cells cs t)).drew W.heap.size cs t from (mbox W cs t _ rfl).2).behind h
theorem ex_le {W : World} {o : Obj} {q : Nat} (h : (W.alloc o).drew.heap.size ≤ q) : W.heap.size + 1 ≤ q := by
  have h2 : (W.alloc o).heap.size ≤ q := h
  rw [World.size_alloc] at h2
  exact h2
theorem ex_cells {W : World} {p : Addr} {u : Value} (h : W.cell? p = some u) : ∃ o, W.heap[p.block]? = some o ∧ o.isCells = true := by
  simp only [World.cell?] at h
  cases hb : W.heap[p.block]? with
  | none => rw [hb] at h; cases h
  | some o => rw [hb] at h; cases o <;> first | exact ⟨_, rfl, rfl⟩ | cases h
theorem New.exaway {n D : Nat} {W : World} {v : Value} {xs : List Nat} {o o' : Obj} (h : New n W v xs) (hD : W.heap[D]? = some o) (ho : o.isCells = false := by rfl) : New n (W.putObj D o') v xs := by
  obtain ⟨S, h1, h2, h3⟩ := h
  refine ⟨S, ?_, by simp; omega, h3⟩
  by_cases hS : S = D
  · subst hS
    rcases h1 with h1 | ⟨off, cap, e, hc, hcell⟩
    · exact .inl h1
    · by_cases h0 : xs.length = 0
      · exact .inr ⟨off, cap, e, hc, fun j hj => by omega⟩
      · obtain ⟨o2, ho2, hoc⟩ := ex_cells (hcell 0 (by omega))
        dsimp only at ho2
        rw [hD] at ho2
        cases ho2
        rw [ho] at hoc
        cases hoc
  · exact h1.kept (World.putObj_heap_other hS)
theorem load1e {W : World} {g : Nat} {v0 : Value} (k0 : W.cell? ⟨g, 0, none⟩ = some v0) : (loadVar 26 ⟨g, 0, none⟩).run Try.prog W = .ok v0 W := by simp [go_sem, k0]
theorem load3m {W : World} {g : Nat} {v0 v1 v2 : Value} (k0 : W.cell? ⟨g, 0, none⟩ = some v0) (k1 : W.cell? ⟨g, 1, none⟩ = some v1) (k2 : W.cell? ⟨g, 2, none⟩ = some v2) : (loadVar 24 ⟨g, 0, none⟩).run Try.prog W = .ok (.agg #[v0, v1, v2]) W := by
  simp [go_sem, k0, k1, k2]
theorem map_two {F : ResultVar → Sem Value} {x1 x2 : ResultVar} {v1 v2 : Value} {P : Program} {w : World} (l1 : (F x1).run P w = .ok v1 w) (l2 : (F x2).run P w = .ok v2 w) :
    (do let vs ← Array.mapM F #[x1, x2]; pure (if h : vs.size = 1 then vs[0] else Value.tuple vs) : Sem Value).run P w = .ok (.tuple #[v1, v2]) w := by
  simp [l1, l2]
theorem cell_run2 {t : TypeId} {x : Value} {p : Addr} {v : Value} {P : Program} {w : World} (e : x = .pointer (some p)) (l : (loadVar t p).run P w = .ok v w) : (do let ad ← asAddr x; loadVar t ad : Sem Value).run P w = .ok v w := by
  subst e
  exact l
theorem results_cell2 {fn : Func} {t u : TypeId} {a b : Tmp} (h : fn.results = #[.cell a t, .cell b u]) {tmps : Array Value} {p1 p2 : Addr} {v1 v2 : Value} {P : Program} {w : World}
    (e1 : tmps.getD a undef = .pointer (some p1)) (e2 : tmps.getD b undef = .pointer (some p2)) (l1 : (loadVar t p1).run P w = .ok v1 w) (l2 : (loadVar u p2).run P w = .ok v2 w) :
    (results fn tmps).run P w = .ok (.tuple #[v1, v2]) w := by
  rw [results.eq_1, h]
  exact map_two (cell_run2 e1 l1) (cell_run2 e2 l2)
set_option maxRecDepth 100000 in
set_option maxHeartbeats 8000000 in
theorem exch_no {R C : Int} {a : Option Addr} {m cap : Nat} {gf : Value} {w : World} (hm : mayM R C m = false) :
    Calls Try.prog 20 #[.agg #[.int .i64 R, .int .i64 C, .slice a m cap], gf] w fun e W' => e = .returned (.tuple #[.agg #[.int .i64 0, .int .i64 0, .slice none 0 0], .int .i64 11]) ∧ Below w.heap.size w W' := by
  have hk := fun w => shape_check (R := R) (C := C) (a := a) (m := m) (cap := cap) (w := w)
  rw [show chkM R C m = 11 by unfold chkM; rw [hm]; rfl] at hk
  obtain ⟨B, G1, G2, hw0⟩ := vboxm w #[.int .i64 R, .int .i64 C, .slice a m cap] #[.int .i64 0, .int .i64 0, .slice none 0 0] 24 24 _ rfl
  obtain ⟨j2, G3⟩ := mbox ((w.alloc (.cells #[.int .i64 R, .int .i64 C, .slice a m cap] 24)).alloc (.cells #[.int .i64 0, .int .i64 0, .slice none 0 0] 24)) #[.int .i64 0] 26 _ rfl
  replace G1 := G1.behind j2
  replace G2 := G2.behind j2
  replace B := below_both B j2
  simp only [World.size_alloc] at G3
  have c0 := G1.cell (i := 0) rfl
  have c1 := G1.cell (i := 1) rfl
  have c2 := G1.cell (i := 2) rfl
  clear hm hw0 j2
  go_enter Try.func20, Try.ntmps20
  go_wp2_with fail
  generalize ((w.alloc (.cells #[.int .i64 R, .int .i64 C, .slice a m cap] 24)).alloc (.cells #[.int .i64 0, .int .i64 0, .slice none 0 0] 24)).alloc (.cells #[.int .i64 0] 26) = W0 at *
  refine (hk _).mono ?_
  rintro e w1 ⟨rfl, b1⟩
  replace G2 := G2.behind b1
  replace G3 := G3.behind b1
  replace B := below_both B b1
  have g0 := G2.cell (i := 0) rfl
  have g1 := G2.cell (i := 1) rfl
  have g2 := G2.cell (i := 2) rfl
  have g3 := G3.cell (i := 0) rfl
  have f0 := G2.f 0
  have f1 := G2.f 1
  have f2 := G2.f 2
  have f3 := G3.f 0
  go_wp2
  have G5 : Ms (((w1.setCell ⟨w.heap.size + 1, 0, none⟩ (.int .i64 0)).setCell ⟨w.heap.size + 1, 1, none⟩ (.int .i64 0)).setCell ⟨w.heap.size + 1, 2, none⟩ (.slice none 0 0)) (w.heap.size + 1) #[.int .i64 0, .int .i64 0, .slice none 0 0] 24 := ((G2.set 0 _).set 1 _).set 2 _
  have G6 := G5.put (p := ⟨w.heap.size + 1 + 1, 0, none⟩) (by simp) (.int .i64 11)
  have G7 : Ms ((((w1.setCell ⟨w.heap.size + 1, 0, none⟩ (.int .i64 0)).setCell ⟨w.heap.size + 1, 1, none⟩ (.int .i64 0)).setCell ⟨w.heap.size + 1, 2, none⟩ (.slice none 0 0)).setCell ⟨w.heap.size + 1 + 1, 0, none⟩ (.int .i64 11)) (w.heap.size + 1 + 1) #[.int .i64 11] 26 := ((((G3.put (p := ⟨w.heap.size + 1, 0, none⟩) (by simp) _).put (p := ⟨w.heap.size + 1, 1, none⟩) (by simp) _).put (p := ⟨w.heap.size + 1, 2, none⟩) (by simp) _).set 0 _)
  refine bodyPost_ret (results_cell2 Try.results20 rfl rfl (load3m (G6.cell (i := 0) rfl) (G6.cell (i := 1) rfl) (G6.cell (i := 2) rfl)) (load1e (G7.cell (i := 0) rfl))) rfl ⟨rfl, ?_⟩
  exact (B.put3 (by omega) _ _ _).setCell (p := ⟨w.heap.size + 1 + 1, 0, none⟩) (by simp; omega) _

set_option maxRecDepth 100000 in
set_option maxHeartbeats 16000000 in
theorem exch_yes {R C : Nat} {a : Option Addr} {m cap gf len : Nat} {lb : Array Value} {f g : Nat → Int} {xs : List Nat} {w : World} (hA : Arg w (.slice a m cap) xs) (hm : mayM R C m = true) (hS : Seq2 gf lb len f g w) :
    Calls Try.prog 20 #[.agg #[.int .i64 (R : Int), .int .i64 (C : Int), .slice a m cap], .func (.func gf) #[] lb] w fun e W' => (((∀ k, k < len → goodP R f g k) ∧ ∃ b c, e = .returned (.tuple #[.agg #[.int .i64 (R : Int), .int .i64 (C : Int), .slice b m c], .int .i64 0]) ∧ New w.heap.size W' (.slice b m c) (exL C f g xs len)) ∨ ((¬ ∀ k, k < len → goodP R f g k) ∧ e = .returned (.tuple #[.agg #[.int .i64 0, .int .i64 0, .slice none 0 0], .int .i64 4]))) ∧ Below w.heap.size w W' := by
  obtain ⟨p1, p2, p3, p4, p5⟩ := mayM_iff.1 hm
  have hmn : m = R * C := by rw [← Int.natCast_mul] at p5; omega
  have hRC : R * C ≤ 64 * 64 := Nat.mul_le_mul (by omega) (by omega)
  have hRC0 : 0 < R * C := Nat.mul_pos (by omega) (by omega)
  have hxl : xs.length = m := by
    obtain ⟨a', c', e⟩ := hA.slice
    simp only [Value.slice.injEq] at e
    omega
  have hk := fun w => shape_check (R := (R : Int)) (C := (C : Int)) (a := a) (m := m) (cap := cap) (w := w)
  rw [show chkM R C m = 0 by unfold chkM; rw [hm]; rfl] at hk
  have HC := Lib.hid (fun (W : World) (h : Below w.heap.size w W) => clone_own (.slice a m cap) xs (by omega) W (hA.behind h))
  have HSQ := Lib.hid (fun (W : World) (h : Below w.heap.size w W) => hS.behind h)
  obtain ⟨hE, -⟩ := hS
  have HD : Hid (∀ n i k j, i < R → k < R → j < C → ∃ A B P Q : Nat, IntKind.i64.wrap ((i : Int) * (C : Int)) = (P : Int) ∧ IntKind.i64.wrap ((P : Int) + (j : Int)) = (A : Int) ∧ IntKind.i64.wrap ((k : Int) * (C : Int)) = (Q : Int) ∧ IntKind.i64.wrap ((Q : Int) + (j : Int)) = (B : Int) ∧ A < m ∧ B < m ∧
      swpC C i k (j + 1) (exL C f g xs n) = ((swpC C i k j (exL C f g xs n)).set A (lim (swpC C i k j (exL C f g xs n)) B)).set B (lim (swpC C i k j (exL C f g xs n)) A)) := Lib.hid (fun n i k j hi hk hj => by
    have a1 := pl_lt hi hj
    have a2 := pl_lt hk hj
    exact ⟨i * C + j, k * C + j, i * C, k * C, by rw [← Int.natCast_mul]; exact IntWalk.i64_in _ (by omega), by rw [← Int.natCast_add]; exact IntWalk.i64_in _ (by omega), by rw [← Int.natCast_mul]; exact IntWalk.i64_in _ (by omega), by rw [← Int.natCast_add]; exact IntWalk.i64_in _ (by omega), by omega, by omega, swpC_succ (R := R) (by rw [exL_length]; omega) hi hk hj⟩)
  have HLN : Hid (∀ n i k j, (zn (swpC C i k j (exL C f g xs n))).length = m) := Lib.hid (fun n i k j => by rw [zn_length, swpC_length, exL_length]; exact hxl)
  have HEL : Hid ((zn xs).length = m ∧ 0 < m) := Lib.hid ⟨by rw [zn_length]; exact hxl, by omega⟩
  have hmx := follows
  have hR1 : R ≤ 64 := by omega
  have hC1 : C ≤ 64 := by omega
  obtain ⟨B, G1, G2, hw0⟩ := vboxm w #[.int .i64 (R : Int), .int .i64 (C : Int), .slice a m cap] #[.int .i64 0, .int .i64 0, .slice none 0 0] 24 24 _ rfl
  obtain ⟨j2, G3⟩ := mbox ((w.alloc (.cells #[.int .i64 (R : Int), .int .i64 (C : Int), .slice a m cap] 24)).alloc (.cells #[.int .i64 0, .int .i64 0, .slice none 0 0] 24)) #[.int .i64 0] 26 _ rfl
  replace G1 := G1.behind j2
  replace G2 := G2.behind j2
  replace B := below_both B j2
  simp only [World.size_alloc] at G3
  have c0 := G1.cell (i := 0) rfl
  have c1 := G1.cell (i := 1) rfl
  have c2 := G1.cell (i := 2) rfl
  clear hm hw0 j2 hA p1 p2 p3 p4 p5 hmn hRC hRC0 hxl
  refine (callsIn_wide (n := 9)).1 ?_
  refine callsIn_of_wp_marks Try.func20 rfl trivial ?_ rfl
  simp only [Try.ntmps20, List.size_toArray, List.length_cons, List.length_nil, Nat.reduceAdd, Nat.reduceSub, Array.replicate_succ, Array.replicate_zero, List.push_toArray, List.append_toArray, List.nil_append, List.cons_append]
  refine wpIn_wide.2 ?_
  go_wp2_with fail
  generalize hW0 : ((w.alloc (.cells #[.int .i64 (R : Int), .int .i64 (C : Int), .slice a m cap] 24)).alloc (.cells #[.int .i64 0, .int .i64 0, .slice none 0 0] 24)).alloc (.cells #[.int .i64 0] 26) = W0 at *
  clear hW0
  refine (hk _).mono ?_
  rintro e w1 ⟨rfl, b1⟩
  replace G1 := G1.behind b1
  replace G2 := G2.behind b1
  replace G3 := G3.behind b1
  replace B := below_both B b1
  clear hk b1 c0 c1 c2
  have HCL : Hid (∀ W, Below w1.heap.size w1 W → W.cell? ⟨w.heap.size, 0, none⟩ = some (.int .i64 (R : Int)) ∧ W.cell? ⟨w.heap.size, 1, none⟩ = some (.int .i64 (C : Int)) ∧ W.cell? ⟨w.heap.size, 2, none⟩ = some (.slice a m cap)) := Lib.hid (fun W h => ⟨(G1.behind h).cell (i := 0) rfl, (G1.behind h).cell (i := 1) rfl, (G1.behind h).cell (i := 2) rfl⟩)
  have Br : Below w1.heap.size w1 w1 := Below.refl _ _
  go_upto_region 4 with (fail)
  go_cut [7] from 19 to 26 (fun p wx => ∃ q c7 g7 : Nat, p = .pointer (some ⟨g7, 0, none⟩) ∧ w1.heap.size ≤ q ∧ w1.heap.size ≤ g7 ∧ g7 ≠ q ∧ OwnK .u64 32 w1.heap.size wx (.slice (some ⟨q, 0, none⟩) m c7) (zn xs) ∧ Ms wx g7 #[.int .i64 (R : Int), .int .i64 (C : Int), .slice (some ⟨q, 0, none⟩) m c7] 24 ∧ Below w1.heap.size w1 wx)
  case first =>
   as_aux_lemma =>
    go_region_held3 (fun W => W.cell? ⟨w.heap.size, 0, none⟩ = some (.int .i64 (R : Int)) ∧ W.cell? ⟨w.heap.size, 1, none⟩ = some (.int .i64 (C : Int)) ∧ W.cell? ⟨w.heap.size, 2, none⟩ = some (.slice a m cap))
      (first | with_reducible exact HCL.out _ Br | with_reducible exact HCL.out _ Br.drew | with_reducible exact HCL.out _ (Br.alloc Br.size _) | with_reducible exact HCL.out _ (Br.alloc Br.size _).drew | with_reducible exact HCL.out _ (Br.drew.alloc Br.drew.size _) | with_reducible exact HCL.out _ (Br.put3 F.1 _ _ _) | with_reducible exact HCL.out _ (Br.drew.put3 F.1 _ _ _) | with_reducible exact HCL.out _ ((Br.alloc Br.size _).put3 Br.size _ _ _) | (trace_state; fail))
      (first
        | (go_at_call 38; (with_reducible refine (HC.out _ (below_both B (by first | with_reducible exact Br | with_reducible exact Br.drew | with_reducible exact Br.alloc Br.size _ | with_reducible exact (Br.alloc Br.size _).drew | with_reducible exact Br.drew.alloc Br.drew.size _))).mono ?_); rintro e v4 ⟨v', rfl, ho, bz⟩; obtain ⟨q, c7, rfl, hq1, hq2⟩ := ho.form (by rw [HEL.out.1]; exact HEL.out.2); rw [HEL.out.1] at ho ⊢; (first | (with_reducible have hqq := ex_le hq1) | (have hqq : w1.heap.size ≤ q := hq1)); (first | (with_reducible have F : _ ∧ _ := ⟨Br.size, ex_new bz⟩) | (with_reducible have F : _ ∧ _ := ⟨Br.size, ex_newd bz⟩) | (with_reducible have F : _ ∧ _ := ⟨Br.drew.size, ex_new bz⟩) | skip); (first | replace Br := below_both Br bz | replace Br := below_both Br.drew bz | replace Br := below_both (Br.alloc Br.size _) bz | replace Br := below_both (Br.alloc Br.size _).drew bz | replace Br := below_both (Br.drew.alloc Br.drew.size _) bz); clear bz; (first | (have z0 := F.2.cell (i := 0) rfl; have z1 := F.2.cell (i := 1) rfl; have z2 := F.2.cell (i := 2) rfl; have h0 := F.2.f 0; have h1 := F.2.f 1; have h2 := F.2.f 2) | skip))
        | (fail))
    all_goals
      go_wp2_with fail
      go_meet
      first
      | exact ⟨q, c7, _, rfl, hqq, Br.size, by omega, (ho.mono (by exact Nat.le_refl _)).alloc _, (mbox _ #[.int .i64 (R : Int), .int .i64 (C : Int), .slice (some ⟨q, 0, none⟩) m c7] 24 _ rfl).2, Br.alloc Br.size _⟩
      | exact ⟨q, c7, _, rfl, by omega, F.1, by omega, (ho.put3 (by show w1.heap.size < (w1.alloc _).heap.size; rw [World.size_alloc]; omega) _ _ _).mono (by show w1.heap.size ≤ (w1.alloc _).heap.size; rw [World.size_alloc]; omega), ex_put3 F.2, Br.put3 F.1 _ _ _⟩
  obtain ⟨q, c7, g7, rfl, hq, hg7, hne, hO, K7, bw⟩ := hcut
  obtain ⟨w2, rfl⟩ : ∃ wo, wo = wc := ⟨_, rfl⟩
  have hI0 : ExI R C m a cap w1.heap.size q c7 g7 w xs w2 := ⟨hO, G1.behind bw, G2.behind bw, G3.behind bw, K7, below_both B bw⟩
  have hq2 : w.heap.size + 2 < q := by have := G3.lt; omega
  have hw2 : w.heap.size ≤ w2.heap.size := hI0.be.size
  have hw3 : w.heap.size + 3 ≤ w1.heap.size ∧ w.heap.size + 3 ≤ w2.heap.size := ⟨by have := G3.lt; omega, by have := G3.lt; have := bw.size; omega⟩
  clear HCL Br hO K7 bw HC G1 G2 G3 B hg7 hq
  go_wp2_with fail
  refine (wpIn_wide (n := 9)).1 ?_
  refine wpIn_range (σ := Pl len) rfl (by omega) (gf := gf) (lb := lb) rfl trivial hE (encs := fun s => #[.int .i64 (f s.1), .int .i64 (g s.1)]) (fun _ => rfl)
    (fun W => (∀ j, j < 0 → goodP R f g j) ∧ ExI R C m a cap w1.heap.size q c7 g7 w (exL C f g xs 0) W) (fun s W => (∀ j, j < s.1 + 1 → goodP R f g j) ∧ ExI R C m a cap w1.heap.size q c7 g7 w (exL C f g xs (s.1 + 1)) W) (fun s W => (∀ j, j < s.1 → goodP R f g j) ∧ ExI R C m a cap w1.heap.size q c7 g7 w (exL C f g xs s.1) W) (fun W => (∀ j, j < len → goodP R f g j) ∧ ExI R C m a cap w1.heap.size q c7 g7 w (exL C f g xs len) W) (ExZ R len f g w)
    (steady_pure.and (exI_steady _ hw2)) (fun _ => steady_pure.and (exI_steady _ hw2)) (fun _ => steady_pure.and (exI_steady _ hw2)) (steady_pure.and (exI_steady _ hw2)) (exZ_steady hw2) ⟨fun j hj => by omega, hI0⟩ ?seq ?a1 ?assign ?body ?done ?stop
  case seq =>
    intro l X Xz W hl hXs hI0 hX hY
    exact (HSQ.out w (Below.refl _ _)).2 (9 - 1) l (fun k W => (∀ j, j < k → goodP R f g j) ∧ ExI R C m a cap w1.heap.size q c7 g7 w (exL C f g xs k) W) X _ Xz (by omega) (fun k W h => h.2.be) (fun k U hk h hx => hY ⟨k, hk⟩ U h hx) W hI0 hX
  case assign =>
    intro l x W K hK
    gi_wp2
    exact hK
  case body =>
    rintro l ⟨k, hk⟩ W hl ⟨hgood, hI⟩
    dsimp only at *
    have c0 := hI.k0.cell (i := 0) rfl
    have c1 := hI.k0.cell (i := 1) rfl
    have hf1 := fun w => pivot_from0 (n := f k) (c := (R : Int)) (w := w)
    have hf2 := fun w => pivot_from0 (n := g k) (c := (R : Int)) (w := w)
    by_cases hgk : goodP R f g k
    · as_aux_lemma =>
      obtain ⟨q1, q2⟩ := hgk
      have hgood' : ∀ j, j < k + 1 → goodP R f g j := fun j hj => by
        by_cases e : j = k
        · subst e; exact ⟨q1, q2⟩
        · exact hgood j (by omega)
      have HG := Lib.hid hgood'
      rw [q1] at hf1
      rw [q2] at hf2
      obtain ⟨r1, r2⟩ := inB_iff.1 q1
      obtain ⟨r3, r4⟩ := inB_iff.1 q2
      have HN : Hid (exL C f g xs (k + 1) = swpC C (f k).toNat (g k).toNat C (exL C f g xs k)) := Lib.hid rfl
      clear q1 q2 hgood hgood'
      obtain ⟨x, hx⟩ : ∃ x : Nat, f k = x := ⟨(f k).toNat, by omega⟩
      obtain ⟨y, hy⟩ : ∃ x : Nat, g k = x := ⟨(g k).toNat, by omega⟩
      rw [hx] at hf1 r2 ⊢
      rw [hy] at hf2 r4 ⊢
      rw [hx, hy] at HN
      simp only [Int.toNat_natCast] at HN
      have hD2 := fun j hj => HD.out k x y j (by omega) (by omega) hj
      have hL2 := fun j => HLN.out k x y j
      have hz := swpC_zero C x y (exL C f g xs k)
      have HF := Lib.hid (And.intro hx hy)
      clear hx hy r1 r3 HD HLN
      rw [← hz] at hI
      generalize exL C f g xs k = L at *
      generalize exL C f g xs (k + 1) = L1 at *
      have HD := Lib.hid hD2
      have HLN := Lib.hid hL2
      clear hD2 hL2 hz
      gi_wp2_with (refine ⟨trivial, ?_⟩; gi_at_call 19; (first | (with_reducible refine (CallsIn.inRound l (callsIn_wide.2 (hf1 _))).mono ?_) | (with_reducible refine (CallsIn.inRound l (callsIn_wide.2 (hf2 _))).mono ?_)); rintro e w' ⟨rfl, rfl⟩)
      gi_loopw [45] (fun r wr => ∃ j : Nat, j ≤ C ∧ r = .int .i64 j ∧ KeepsFrom w2.heap.size W wr ∧ ExI R C m a cap w1.heap.size q c7 g7 w (swpC C x y j L) wr) (fun r _ => C - (intOf r).toNat)
      case atStart => exact ⟨0, Nat.zero_le _, rfl, KeepsFrom.refl _ _, hI⟩
      case round =>
        clear c0 c1 hI hf1 hf2
        obtain ⟨j, hj, rfl, hKF, hI⟩ := hrel
        have c1 := hI.k0.cell (i := 1) rfl
        by_cases hlt : j < C
        · as_aux_lemma =>
          obtain ⟨A, B, P, Q, e1, e2, e3, e4, hA, hB, hs⟩ := HD.out j hlt
          have HS := Lib.hid hs
          clear hs
          have hlt2 : decide ((j : Int) < (C : Int)) = true := decide_eq_true (by omega)
          have e5 : IntKind.i64.wrap ((j : Int) + 1) = ((j + 1 : Nat) : Int) := by rw [Int.natCast_add]; exact IntWalk.i64_in _ (by omega)
          have d2 := hI.k7.cell (i := 2) rfl
          have hl := HLN.out j
          have kA := hI.ow.cell (j := A) (by rw [hl]; exact hA)
          have kB := hI.ow.cell (j := B) (by rw [hl]; exact hB)
          have fA := hI.ow.frozen A
          have fB := hI.ow.frozen B
          rw [zn_at (by rw [zn_length] at hl; omega)] at kA kB
          have I2 := (hI.put hq2 hne (A := A) (z := lim (swpC C x y j L) B) rfl)
          have kB2 := I2.ow.cell (j := B) (by rw [zn_length, List.length_set]; rw [zn_length] at hl; omega)
          have fB2 := I2.ow.frozen B
          have I3 := (I2.put hq2 hne (A := B) (z := lim (swpC C x y j L) A) rfl)
          rw [← HS.out] at I3
          have hAm : (A : Int) < (m : Int) := by omega
          have hBm : (B : Int) < (m : Int) := by omega
          generalize lim (swpC C x y j L) A = xa at *
          generalize lim (swpC C x y j L) B = xb at *
          gi_wp2
          refine region_round hmx (by kernel_rfl) (by rintro ⟨_, _, h⟩; exact h) (fun u => u.cell? ⟨g7, 2, none⟩ = some (.slice (some ⟨q, 0, none⟩) m c7) ∧ u.cell? ⟨w.heap.size, 1, none⟩ = some (.int .i64 (C : Int))) ⟨d2, c1⟩ (fun hHeld => ?_)
          refine wpAnyH_take (i := 0) (v := ?_) rfl (by kernel_rfl) (by kernel_rfl) (by kernel_rfl) (fun _ _ _ h => h) (Or.inl ⟨by rfl, ?_⟩) (by assumption) ?_
          rotate_left
          · (intro _ hSw; (try dsimp only at hSw); (first | (go_simp; done) | (go_simp; with_reducible rfl)))
          try simp only [Act.put, List.getElem_toArray, List.getElem_cons_zero, List.setIfInBounds_toArray, List.set_cons_zero, List.set_cons_succ]
          refine wpAnyH_take (i := 1) (v := ?_) rfl (by kernel_rfl) (by kernel_rfl) (by kernel_rfl) (fun _ _ _ h => h) (Or.inl ⟨by rfl, ?_⟩) (by assumption) ?_
          rotate_left
          · (intro _ hSw; (try dsimp only at hSw); (first | (go_simp; done) | (go_simp; with_reducible rfl)))
          try simp only [Act.put, List.getElem_toArray, List.getElem_cons_zero, List.getElem_cons_succ, List.setIfInBounds_toArray, List.set_cons_zero, List.set_cons_succ]
          refine wpAnyH_take (i := 2) (v := ?_) rfl (by kernel_rfl) (by kernel_rfl) (by kernel_rfl) (fun _ _ _ h => h) (Or.inl ⟨by rfl, ?_⟩) (by assumption) ?_
          rotate_left
          · (intro _ hSw; (try dsimp only at hSw); (first | (go_simp; done) | (go_simp; with_reducible rfl)))
          try simp only [Act.put, List.getElem_toArray, List.getElem_cons_zero, List.getElem_cons_succ, List.setIfInBounds_toArray, List.set_cons_zero, List.set_cons_succ]
          refine wpAnyH_take (i := 3) (v := ?_) rfl (by kernel_rfl) (by kernel_rfl) (by kernel_rfl) (fun _ _ _ h => h) (Or.inl ⟨by rfl, ?_⟩) (by assumption) ?_
          rotate_left
          · (intro _ hSw; (try dsimp only at hSw); (first | (go_simp; done) | (go_simp; with_reducible rfl)))
          try simp only [Act.put, List.getElem_toArray, List.getElem_cons_zero, List.getElem_cons_succ, List.setIfInBounds_toArray, List.set_cons_zero, List.set_cons_succ]
          refine wpAnyH_take (i := 4) (v := ?_) rfl (by kernel_rfl) (by kernel_rfl) (by kernel_rfl) (fun _ _ _ h => h) (Or.inl ⟨by rfl, ?_⟩) (by assumption) ?_
          rotate_left
          · (intro _ hSw; (try dsimp only at hSw); (first | (go_simp; done) | (go_simp; with_reducible rfl)))
          try simp only [Act.put, List.getElem_toArray, List.getElem_cons_zero, List.getElem_cons_succ, List.setIfInBounds_toArray, List.set_cons_zero, List.set_cons_succ]
          refine wpAnyH_take (i := 5) (v := ?_) rfl (by kernel_rfl) (by kernel_rfl) (by kernel_rfl) (fun _ _ _ h => h) (Or.inl ⟨by rfl, ?_⟩) (by assumption) ?_
          rotate_left
          · (intro _ hSw; (try dsimp only at hSw); (first | (go_simp; done) | (go_simp; with_reducible rfl)))
          try simp only [Act.put, List.getElem_toArray, List.getElem_cons_zero, List.getElem_cons_succ, List.setIfInBounds_toArray, List.set_cons_zero, List.set_cons_succ]
          refine wpAnyH_take (i := 6) (v := ?_) rfl (by kernel_rfl) (by kernel_rfl) (by kernel_rfl) (fun _ _ _ h => h) (Or.inl ⟨by rfl, ?_⟩) (by assumption) ?_
          rotate_left
          · (intro _ hSw; (try dsimp only at hSw); (first | (go_simp; done) | (go_simp; with_reducible rfl)))
          try simp only [Act.put, List.getElem_toArray, List.getElem_cons_zero, List.getElem_cons_succ, List.setIfInBounds_toArray, List.set_cons_zero, List.set_cons_succ]
          refine wpAnyH_take (i := 7) (v := ?_) rfl (by kernel_rfl) (by kernel_rfl) (by kernel_rfl) (fun _ _ _ h => h) (Or.inl ⟨by rfl, ?_⟩) (by assumption) ?_
          rotate_left
          · (intro _ hSw; (try dsimp only at hSw); (first | (go_simp; done) | (go_simp; with_reducible rfl)))
          try simp only [Act.put, List.getElem_toArray, List.getElem_cons_zero, List.getElem_cons_succ, List.setIfInBounds_toArray, List.set_cons_zero, List.set_cons_succ]
          refine wpAnyH_take (i := 8) (v := ?_) rfl (by kernel_rfl) (by kernel_rfl) (by kernel_rfl) (fun _ _ _ h => h) (Or.inl ⟨by rfl, ?_⟩) (by assumption) ?_
          rotate_left
          · (intro _ hSw; (try dsimp only at hSw); (first | (go_simp; done) | (go_simp; with_reducible rfl)))
          try simp only [Act.put, List.getElem_toArray, List.getElem_cons_zero, List.getElem_cons_succ, List.setIfInBounds_toArray, List.set_cons_zero, List.set_cons_succ]
          refine wpAnyH_take (i := 9) (v := ?_) rfl (by kernel_rfl) (by kernel_rfl) (by kernel_rfl) (fun _ _ _ h => h) (Or.inl ⟨by rfl, ?_⟩) (by assumption) ?_
          rotate_left
          · (intro _ hSw; (try dsimp only at hSw); (first | (go_simp; done) | (go_simp; with_reducible rfl)))
          try simp only [Act.put, List.getElem_toArray, List.getElem_cons_zero, List.getElem_cons_succ, List.setIfInBounds_toArray, List.set_cons_zero, List.set_cons_succ]
          refine wpAnyH_take (i := 10) (v := ?_) rfl (by kernel_rfl) (by kernel_rfl) (by kernel_rfl) (fun _ _ _ h => h) (Or.inl ⟨by rfl, ?_⟩) (by assumption) ?_
          rotate_left
          · (intro _ hSw; (try dsimp only at hSw); (first | (go_simp; done) | (go_simp; with_reducible rfl)))
          try simp only [Act.put, List.getElem_toArray, List.getElem_cons_zero, List.getElem_cons_succ, List.setIfInBounds_toArray, List.set_cons_zero, List.set_cons_succ]
          refine wpAnyH_take (i := 11) (v := ?_) rfl (by kernel_rfl) (by kernel_rfl) (by kernel_rfl) (fun _ _ _ h => h) (Or.inl ⟨by rfl, ?_⟩) (by assumption) ?_
          rotate_left
          · (intro _ hSw; (try dsimp only at hSw); (first | (go_simp; done) | (go_simp; with_reducible rfl)))
          try simp only [Act.put, List.getElem_toArray, List.getElem_cons_zero, List.getElem_cons_succ, List.setIfInBounds_toArray, List.set_cons_zero, List.set_cons_succ]
          refine wpAnyH_take (i := 12) (v := ?_) rfl (by kernel_rfl) (by kernel_rfl) (by kernel_rfl) (fun _ _ _ h => h) (Or.inl ⟨by rfl, ?_⟩) (by assumption) ?_
          rotate_left
          · (intro _ hSw; (try dsimp only at hSw); (first | (go_simp; done) | (go_simp; with_reducible rfl)))
          try simp only [Act.put, List.getElem_toArray, List.getElem_cons_zero, List.getElem_cons_succ, List.setIfInBounds_toArray, List.set_cons_zero, List.set_cons_succ]
          refine wpAnyH_take (i := 13) (v := ?_) rfl (by kernel_rfl) (by kernel_rfl) (by kernel_rfl) (fun _ _ _ h => h) (Or.inl ⟨by rfl, ?_⟩) (by assumption) ?_
          rotate_left
          · (intro _ hSw; (try dsimp only at hSw); (first | (go_simp; done) | (go_simp; with_reducible rfl)))
          try simp only [Act.put, List.getElem_toArray, List.getElem_cons_zero, List.getElem_cons_succ, List.setIfInBounds_toArray, List.set_cons_zero, List.set_cons_succ]
          refine wpAnyH_take (i := 14) (v := ?_) rfl (by kernel_rfl) (by kernel_rfl) (by kernel_rfl) (fun _ _ _ h => h) (Or.inl ⟨by rfl, ?_⟩) (by assumption) ?_
          rotate_left
          · (intro _ hSw; (try dsimp only at hSw); (first | (go_simp; done) | (go_simp; with_reducible rfl)))
          try simp only [Act.put, List.getElem_toArray, List.getElem_cons_zero, List.getElem_cons_succ, List.setIfInBounds_toArray, List.set_cons_zero, List.set_cons_succ]
          refine wpAnyH_take (i := 15) (v := ?_) rfl (by kernel_rfl) (by kernel_rfl) (by kernel_rfl) (fun _ _ _ h => h) (Or.inl ⟨by rfl, ?_⟩) (by assumption) ?_
          rotate_left
          · (intro _ hSw; (try dsimp only at hSw); (first | (go_simp; done) | (go_simp; with_reducible rfl)))
          try simp only [Act.put, List.getElem_toArray, List.getElem_cons_zero, List.getElem_cons_succ, List.setIfInBounds_toArray, List.set_cons_zero, List.set_cons_succ]
          refine wpAnyH_take (i := 16) (v := ?_) rfl (by kernel_rfl) (by kernel_rfl) (by kernel_rfl) (fun _ _ _ h => h) (Or.inl ⟨by rfl, ?_⟩) (by assumption) ?_
          rotate_left
          · (intro _ hSw; (try dsimp only at hSw); (first | (go_simp; done) | (go_simp; with_reducible rfl)))
          try simp only [Act.put, List.getElem_toArray, List.getElem_cons_zero, List.getElem_cons_succ, List.setIfInBounds_toArray, List.set_cons_zero, List.set_cons_succ]
          refine wpAnyH_take (i := 17) (v := ?_) rfl (by kernel_rfl) (by kernel_rfl) (by kernel_rfl) (fun _ _ _ h => h) (Or.inl ⟨by rfl, ?_⟩) (by assumption) ?_
          rotate_left
          · (intro _ hSw; (try dsimp only at hSw); (first | (go_simp; done) | (go_simp; with_reducible rfl)))
          try simp only [Act.put, List.getElem_toArray, List.getElem_cons_zero, List.getElem_cons_succ, List.setIfInBounds_toArray, List.set_cons_zero, List.set_cons_succ]
          refine wpAnyH_take (i := 18) (v := ?_) rfl (by kernel_rfl) (by kernel_rfl) (by kernel_rfl) (fun _ _ _ h => h) (Or.inl ⟨by rfl, ?_⟩) (by assumption) ?_
          rotate_left
          · (intro _ hSw; (try dsimp only at hSw); (first | (go_simp; done) | (go_simp; with_reducible rfl)))
          try simp only [Act.put, List.getElem_toArray, List.getElem_cons_zero, List.getElem_cons_succ, List.setIfInBounds_toArray, List.set_cons_zero, List.set_cons_succ]
          refine wpAnyH_take (i := 19) (v := ?_) rfl (by kernel_rfl) (by kernel_rfl) (by kernel_rfl) (fun _ _ _ h => h) (Or.inl ⟨by rfl, ?_⟩) (by assumption) ?_
          rotate_left
          · (intro _ hSw; (try dsimp only at hSw); (first | (go_simp; done) | (go_simp; with_reducible rfl)))
          try simp only [Act.put, List.getElem_toArray, List.getElem_cons_zero, List.getElem_cons_succ, List.setIfInBounds_toArray, List.set_cons_zero, List.set_cons_succ]
          refine wpAnyH_done (by kernel_rfl) ?_ _
          gi_wp2
          refine region_round hmx (by kernel_rfl) (by rintro ⟨_, _, h⟩; exact h) (fun u => True) trivial (fun hHeld => ?_)
          refine wpAnyH_take (i := 0) (v := ?_) rfl (by kernel_rfl) (by kernel_rfl) (by kernel_rfl) (fun _ _ _ h => h) (Or.inl ⟨by rfl, ?_⟩) (by assumption) ?_
          rotate_left
          · (intro _ hSw; (try dsimp only at hSw); (first | (go_simp; done) | (go_simp; with_reducible rfl)))
          try simp only [Act.put, List.getElem_toArray, List.getElem_cons_zero, List.setIfInBounds_toArray, List.set_cons_zero, List.set_cons_succ]
          refine wpAnyH_take (i := 1) (v := ?_) rfl (by kernel_rfl) (by kernel_rfl) (by kernel_rfl) (fun _ _ _ h => h) (Or.inl ⟨by rfl, ?_⟩) (by assumption) ?_
          rotate_left
          · (intro _ hSw; (try dsimp only at hSw); (first | (go_simp; done) | (go_simp; with_reducible rfl)))
          try simp only [Act.put, List.getElem_toArray, List.getElem_cons_zero, List.getElem_cons_succ, List.setIfInBounds_toArray, List.set_cons_zero, List.set_cons_succ]
          refine wpAnyH_take (i := 2) (v := ?_) rfl (by kernel_rfl) (by kernel_rfl) (by kernel_rfl) (fun _ _ _ h => h) (Or.inl ⟨by rfl, ?_⟩) (by assumption) ?_
          rotate_left
          · (intro _ hSw; (try dsimp only at hSw); (first | (go_simp; done) | (go_simp; with_reducible rfl)))
          try simp only [Act.put, List.getElem_toArray, List.getElem_cons_zero, List.getElem_cons_succ, List.setIfInBounds_toArray, List.set_cons_zero, List.set_cons_succ]
          refine wpAnyH_take (i := 3) (v := ?_) rfl (by kernel_rfl) (by kernel_rfl) (by kernel_rfl) (fun _ _ _ h => h) (Or.inl ⟨by rfl, ?_⟩) (by assumption) ?_
          rotate_left
          · (intro _ hSw; (try dsimp only at hSw); (first | (go_simp; done) | (go_simp; with_reducible rfl)))
          try simp only [Act.put, List.getElem_toArray, List.getElem_cons_zero, List.getElem_cons_succ, List.setIfInBounds_toArray, List.set_cons_zero, List.set_cons_succ]
          refine wpAnyH_take (i := 5) (v := ?_) rfl (by kernel_rfl) (by kernel_rfl) (by kernel_rfl) (fun _ _ _ h => h) (Or.inl ⟨by rfl, ?_⟩) (by assumption) ?_
          rotate_left
          · (intro _ hSw; (try dsimp only at hSw); (first | (go_simp; done) | (go_simp; with_reducible rfl)))
          try simp only [Act.put, List.getElem_toArray, List.getElem_cons_zero, List.getElem_cons_succ, List.setIfInBounds_toArray, List.set_cons_zero, List.set_cons_succ]
          refine wpAnyH_take (i := 6) (v := ?_) rfl (by kernel_rfl) (by kernel_rfl) (by kernel_rfl) (fun _ _ _ h => h) (Or.inl ⟨by rfl, ?_⟩) (by assumption) ?_
          rotate_left
          · (intro _ hSw; (try dsimp only at hSw); (first | (go_simp; done) | (go_simp; with_reducible rfl)))
          try simp only [Act.put, List.getElem_toArray, List.getElem_cons_zero, List.getElem_cons_succ, List.setIfInBounds_toArray, List.set_cons_zero, List.set_cons_succ]
          refine wpAnyH_ready (rs := [4, 7]) (by kernel_rfl) (by simp) ?_
          refine AllReadyH.cons rfl (fun K hK => ?_) (AllReadyH.cons rfl (fun K hK => ?_) AllReadyH.nil)
          · go_simp
            refine hK.out _ _ trivial (fun hHeld => ?_)
            clear hK K
            try simp only [Act.put, List.getElem_toArray, List.getElem_cons_zero, List.getElem_cons_succ, List.setIfInBounds_toArray, List.set_cons_zero, List.set_cons_succ]
            refine wpAnyH_ready (rs := [7]) (by kernel_rfl) (by simp) ?_
            refine AllReadyH.cons rfl (fun K hK => ?_) AllReadyH.nil
            go_simp
            refine hK.out _ _ trivial (fun hHeld => ?_)
            clear hK K
            try simp only [Act.put, List.getElem_toArray, List.getElem_cons_zero, List.getElem_cons_succ, List.setIfInBounds_toArray, List.set_cons_zero, List.set_cons_succ]
            refine wpAnyH_take (i := 8) (v := ?_) rfl (by kernel_rfl) (by kernel_rfl) (by kernel_rfl) (fun _ _ _ h => h) (Or.inl ⟨by rfl, ?_⟩) (by assumption) ?_
            rotate_left
            · (intro _ hSw; (try dsimp only at hSw); (first | (go_simp; done) | (go_simp; with_reducible rfl)))
            try simp only [Act.put, List.getElem_toArray, List.getElem_cons_zero, List.getElem_cons_succ, List.setIfInBounds_toArray, List.set_cons_zero, List.set_cons_succ]
            refine wpAnyH_ready (rs := [9]) (by kernel_rfl) (by simp) ?_
            refine AllReadyH.cons rfl (fun K hK => ?_) AllReadyH.nil
            go_simp
            refine hK.out _ _ trivial (fun hHeld => ?_)
            clear hK K
            try simp only [Act.put, List.getElem_toArray, List.getElem_cons_zero, List.getElem_cons_succ, List.setIfInBounds_toArray, List.set_cons_zero, List.set_cons_succ]
            refine wpAnyH_take (i := 10) (v := ?_) rfl (by kernel_rfl) (by kernel_rfl) (by kernel_rfl) (fun _ _ _ h => h) (Or.inl ⟨by rfl, ?_⟩) (by assumption) ?_
            rotate_left
            · (intro _ hSw; (try dsimp only at hSw); (first | (go_simp; done) | (go_simp; with_reducible rfl)))
            try simp only [Act.put, List.getElem_toArray, List.getElem_cons_zero, List.getElem_cons_succ, List.setIfInBounds_toArray, List.set_cons_zero, List.set_cons_succ]
            refine wpAnyH_ready (rs := [11]) (by kernel_rfl) (by simp) ?_
            refine AllReadyH.cons rfl (fun K hK => ?_) AllReadyH.nil
            go_simp
            refine hK.out _ _ trivial (fun hHeld => ?_)
            clear hK K
            try simp only [Act.put, List.getElem_toArray, List.getElem_cons_zero, List.getElem_cons_succ, List.setIfInBounds_toArray, List.set_cons_zero, List.set_cons_succ]
            refine wpAnyH_done (by kernel_rfl) ?_ _
            gi_wp2
            exact ⟨⟨j + 1, by omega, rfl, hKF.trans ((((KeepsOthers.setCell _ _ _).trans (KeepsOthers.setCell _ _ _)).trans ((KeepsOthers.drew _).trans (KeepsOthers.drew _))).from _), I3.drew.drew⟩, by simp [intOf]; omega⟩
          · go_simp
            refine hK.out _ _ trivial (fun hHeld => ?_)
            clear hK K
            try simp only [Act.put, List.getElem_toArray, List.getElem_cons_zero, List.getElem_cons_succ, List.setIfInBounds_toArray, List.set_cons_zero, List.set_cons_succ]
            refine wpAnyH_ready (rs := [4]) (by kernel_rfl) (by simp) ?_
            refine AllReadyH.cons rfl (fun K hK => ?_) AllReadyH.nil
            go_simp
            refine hK.out _ _ trivial (fun hHeld => ?_)
            clear hK K
            try simp only [Act.put, List.getElem_toArray, List.getElem_cons_zero, List.getElem_cons_succ, List.setIfInBounds_toArray, List.set_cons_zero, List.set_cons_succ]
            refine wpAnyH_take (i := 8) (v := ?_) rfl (by kernel_rfl) (by kernel_rfl) (by kernel_rfl) (fun _ _ _ h => h) (Or.inl ⟨by rfl, ?_⟩) (by assumption) ?_
            rotate_left
            · (intro _ hSw; (try dsimp only at hSw); (first | (go_simp; done) | (go_simp; with_reducible rfl)))
            try simp only [Act.put, List.getElem_toArray, List.getElem_cons_zero, List.getElem_cons_succ, List.setIfInBounds_toArray, List.set_cons_zero, List.set_cons_succ]
            refine wpAnyH_ready (rs := [9]) (by kernel_rfl) (by simp) ?_
            refine AllReadyH.cons rfl (fun K hK => ?_) AllReadyH.nil
            go_simp
            refine hK.out _ _ trivial (fun hHeld => ?_)
            clear hK K
            try simp only [Act.put, List.getElem_toArray, List.getElem_cons_zero, List.getElem_cons_succ, List.setIfInBounds_toArray, List.set_cons_zero, List.set_cons_succ]
            refine wpAnyH_take (i := 10) (v := ?_) rfl (by kernel_rfl) (by kernel_rfl) (by kernel_rfl) (fun _ _ _ h => h) (Or.inl ⟨by rfl, ?_⟩) (by assumption) ?_
            rotate_left
            · (intro _ hSw; (try dsimp only at hSw); (first | (go_simp; done) | (go_simp; with_reducible rfl)))
            try simp only [Act.put, List.getElem_toArray, List.getElem_cons_zero, List.getElem_cons_succ, List.setIfInBounds_toArray, List.set_cons_zero, List.set_cons_succ]
            refine wpAnyH_ready (rs := [11]) (by kernel_rfl) (by simp) ?_
            refine AllReadyH.cons rfl (fun K hK => ?_) AllReadyH.nil
            go_simp
            refine hK.out _ _ trivial (fun hHeld => ?_)
            clear hK K
            try simp only [Act.put, List.getElem_toArray, List.getElem_cons_zero, List.getElem_cons_succ, List.setIfInBounds_toArray, List.set_cons_zero, List.set_cons_succ]
            refine wpAnyH_done (by kernel_rfl) ?_ _
            gi_wp2
            exact ⟨⟨j + 1, by omega, rfl, hKF.trans ((((KeepsOthers.setCell _ _ _).trans (KeepsOthers.setCell _ _ _)).trans ((KeepsOthers.drew _).trans (KeepsOthers.drew _))).from _), I3.drew.drew⟩, by simp [intOf]; omega⟩
        · obtain rfl : j = C := by omega
          have hlt2 : decide ((j : Int) < (j : Int)) = false := by simp
          gi_wp2
          exact ⟨hKF, HG.out, by rw [HN.out]; exact hI⟩
    · as_aux_lemma =>
      have hbad : ¬ ∀ k, k < len → goodP R f g k := fun h => hgk (h k hk)
      have HB := Lib.hid hbad
      clear hbad
      have g0 := hI.k1.cell (i := 0) rfl
      have g1 := hI.k1.cell (i := 1) rfl
      have g2 := hI.k1.cell (i := 2) rfl
      have g3 := hI.k2.cell (i := 0) rfl
      have f0 := hI.k1.f 0
      have f1 := hI.k1.f 1
      have f2 := hI.k1.f 2
      have f3 := hI.k2.f 0
      have kk1 := hI.k1
      have kk2 := hI.k2
      have bb := hI.be
      have hfin : ∀ W0, W0 = (((W.setCell ⟨w.heap.size + 1, 0, none⟩ (.int .i64 0)).setCell ⟨w.heap.size + 1, 1, none⟩ (.int .i64 0)).setCell ⟨w.heap.size + 1, 2, none⟩ (.slice none 0 0)).setCell ⟨w.heap.size + 2, 0, none⟩ (.int .i64 4) → KeepsFrom w2.heap.size W W0 ∧ ExZ R len f g w .ret W0 := fun W0 e => by
        subst e
        refine ⟨(((KeepsOthers.setCell _ _ _).trans (KeepsOthers.setCell _ _ _)).trans ((KeepsOthers.setCell _ _ _).trans (KeepsOthers.setCell _ _ _))).from _, ⟨rfl, HB.out, ?_, ?_, ?_⟩⟩
        · exact (ex_put3 (x := .int .i64 0) (y := .int .i64 0) (z := .slice none 0 0) kk1).put (p := ⟨w.heap.size + 2, 0, none⟩) (by show w.heap.size + 1 ≠ w.heap.size + 2; omega) _
        · exact (((kk2.put (p := ⟨w.heap.size + 1, 0, none⟩) (by show w.heap.size + 2 ≠ w.heap.size + 1; omega) _).put (p := ⟨w.heap.size + 1, 1, none⟩) (by show w.heap.size + 2 ≠ w.heap.size + 1; omega) _).put (p := ⟨w.heap.size + 1, 2, none⟩) (by show w.heap.size + 2 ≠ w.heap.size + 1; omega) _).set 0 _
        · exact (bb.put3 (by omega) _ _ _).setCell (p := ⟨w.heap.size + 2, 0, none⟩) (by show w.heap.size ≤ w.heap.size + 2; omega) _
      have HFIN := Lib.hid hfin
      clear hfin kk1 kk2 bb hgood hI
      unfold goodP at hgk
      generalize f k = x at *
      generalize g k = y at *
      cases q1 : inB x R
      · rw [q1] at hf1
        clear hf2 hgk
        gi_wp2_with (refine ⟨trivial, ?_⟩; gi_at_call 19; (with_reducible refine (CallsIn.inRound l (callsIn_wide.2 (hf1 _))).mono ?_); rintro e w' ⟨rfl, rfl⟩)
        refine ⟨trivial, ?_⟩
        gi_wp2
        exact HFIN.out _ rfl
      · rw [q1] at hf1
        have q2 : inB y R = false := by
          cases h : inB y R
          · rfl
          · exact absurd ⟨q1, h⟩ hgk
        rw [q2] at hf2
        clear hgk
        gi_wp2_with (refine ⟨trivial, ?_⟩; gi_at_call 19; (first | (with_reducible refine (CallsIn.inRound l (callsIn_wide.2 (hf1 _))).mono ?_) | (with_reducible refine (CallsIn.inRound l (callsIn_wide.2 (hf2 _))).mono ?_)); rintro e w' ⟨rfl, rfl⟩)
        exact HFIN.out _ rfl
  case done =>
    rintro D W hD ⟨hgood, hI⟩ hK
    have HGD := Lib.hid hgood
    have kk1 := hI.k1
    have kk2 := hI.k2
    have kk7 := hI.k7
    have ho := hI.ow
    have be := hI.be
    have c0 := kk7.cell (i := 0) rfl
    have c1 := kk7.cell (i := 1) rfl
    have c2 := kk7.cell (i := 2) rfl
    have g0 := kk1.cell (i := 0) rfl
    have g1 := kk1.cell (i := 1) rfl
    have g2 := kk1.cell (i := 2) rfl
    have g3 := kk2.cell (i := 0) rfl
    have f0 := kk1.f 0
    have f1 := kk1.f 1
    have f2 := kk1.f 2
    have f3 := kk2.f 0
    have m1 := (ex_put3 (x := .int .i64 (R : Int)) (y := .int .i64 (C : Int)) (z := .slice (some ⟨q, 0, none⟩) m c7) kk1).put (p := ⟨w.heap.size + 2, 0, none⟩) (by show w.heap.size + 1 ≠ w.heap.size + 2; omega) (.int .i64 0)
    have m2 := (((kk2.put (p := ⟨w.heap.size + 1, 0, none⟩) (by show w.heap.size + 2 ≠ w.heap.size + 1; omega) (.int .i64 (R : Int))).put (p := ⟨w.heap.size + 1, 1, none⟩) (by show w.heap.size + 2 ≠ w.heap.size + 1; omega) (.int .i64 (C : Int))).put (p := ⟨w.heap.size + 1, 2, none⟩) (by show w.heap.size + 2 ≠ w.heap.size + 1; omega) (.slice (some ⟨q, 0, none⟩) m c7)).set 0 (.int .i64 0)
    have mo := (ho.put3 (g := w.heap.size + 1) (by omega) (.int .i64 (R : Int)) (.int .i64 (C : Int)) (.slice (some ⟨q, 0, none⟩) m c7)).far (p := ⟨w.heap.size + 2, 0, none⟩) (by show w.heap.size + 2 < w1.heap.size; omega) (.int .i64 0)
    have bb := (be.put3 (g := w.heap.size + 1) (by omega) (.int .i64 (R : Int)) (.int .i64 (C : Int)) (.slice (some ⟨q, 0, none⟩) m c7)).setCell (p := ⟨w.heap.size + 2, 0, none⟩) (by show w.heap.size ≤ w.heap.size + 2; omega) (.int .i64 0)
    have hk1 := (((((KeepsOthers.setCell W ⟨w.heap.size + 1, 0, none⟩ (.int .i64 (R : Int))).trans (KeepsOthers.setCell _ ⟨w.heap.size + 1, 1, none⟩ (.int .i64 (C : Int)))).trans (KeepsOthers.setCell _ ⟨w.heap.size + 1, 2, none⟩ (.slice (some ⟨q, 0, none⟩) m c7))).trans (KeepsOthers.setCell _ ⟨w.heap.size + 2, 0, none⟩ (.int .i64 0))).same D _ hK rfl)
    have HM := Lib.hid (And.intro m1 (And.intro m2 (And.intro mo (And.intro bb hk1))))
    clear m1 m2 mo bb hk1 kk1 kk2 kk7 ho be hI hgood
    gi_wp2
    go_wp2
    obtain ⟨m1, m2, mo, bb, hk1⟩ := HM.out
    refine ⟨by simp, .inl ⟨_, _, rfl, run_takeDeferred hk1, ?_⟩⟩
    have n1 := (World.putObj_heap_other (o := .deferred none) (by omega : w.heap.size + 1 ≠ D)).trans m1
    have n2 := (World.putObj_heap_other (o := .deferred none) (by omega : w.heap.size + 2 ≠ D)).trans m2
    refine ⟨_, results_cell2 Try.results20 rfl rfl (load3m (Ms.cell n1 (i := 0) rfl) (Ms.cell n1 (i := 1) rfl) (Ms.cell n1 (i := 2) rfl)) (load1e (Ms.cell n2 (i := 0) rfl)), .inl ⟨HGD.out, _, _, rfl, ?_⟩, ?_⟩
    · exact ((new_zn.2 (mo.new (by have := m1.lt; omega))).lower (n' := w.heap.size) (by omega)).exaway hk1
    · exact bb.trans (belowK_b (w := w) (Nat.le_refl _) _ D _ _ (by omega) hk1 rfl rfl)
  case stop =>
    rintro D c W hD hz hK
    obtain ⟨rfl, hbad, k1, k2, be⟩ := hz
    have HM := Lib.hid (And.intro hbad (And.intro k1 (And.intro k2 be)))
    clear hbad k1 k2 be
    gi_wp2
    obtain ⟨hbad, k1, k2, be⟩ := HM.out
    refine ⟨by simp, .inl ⟨_, _, rfl, run_takeDeferred hK, ?_⟩⟩
    have n1 := (World.putObj_heap_other (o := .deferred none) (by omega : w.heap.size + 1 ≠ D)).trans k1
    have n2 := (World.putObj_heap_other (o := .deferred none) (by omega : w.heap.size + 2 ≠ D)).trans k2
    refine ⟨_, results_cell2 Try.results20 rfl rfl (load3m (Ms.cell n1 (i := 0) rfl) (Ms.cell n1 (i := 1) rfl) (Ms.cell n1 (i := 2) rfl)) (load1e (Ms.cell n2 (i := 0) rfl)), .inr ⟨hbad, rfl⟩, ?_⟩
    exact be.trans (belowK_b (w := w) (Nat.le_refl _) _ D _ _ (by omega) hK rfl rfl)
end Go.Proofs.Ytjljmccdlkdgoaa
