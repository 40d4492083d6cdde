/- Matrices, number by number: plain lists. No program is named here. -/
import Derived.Test.YtjapilpjahhimaaFmNum
import Derived.Test.YtjapilpjahhimaaShNum
import Derived.Test.YtjapilpjahhimaaOw
import Derived.Test.YtjapilpjahhimaaVeSpec
import Derived.Test.YtjapilpjahhimaaShMake
namespace Go.Proofs.Ytjapilpjahhimaa

def minusU (a b : Nat) : Nat := (rsubt a b 0).1
theorem minusU_lt {a b : Nat} (ha : a ≤ 18446744073709551615) (hb : b ≤ 18446744073709551615) : minusU a b ≤ 18446744073709551615 := by
  unfold minusU rsubt
  split
  · decide
  · exact radd_lt ha (by have := (flip_facts (b := b) (by omega)).1; omega)
/-- two lists, place by place -/
def pairV (op : Nat → Nat → Nat) (xs ys : List Nat) : List Nat := rowV xs.length fun k => op (lim xs k) (lim ys k)
/-- two lists, place by place, the first k places -/
def pairK (op : Nat → Nat → Nat) (xs ys : List Nat) (k : Nat) : List Nat := rowV k fun j => op (lim xs j) (lim ys j)
theorem pairK_length (op : Nat → Nat → Nat) (xs ys : List Nat) (k : Nat) : (pairK op xs ys k).length = k := rowV_length _ _
theorem pairK_succ (op : Nat → Nat → Nat) (xs ys : List Nat) (k : Nat) : pairK op xs ys (k + 1) = pairK op xs ys k ++ [op (lim xs k) (lim ys k)] := rowV_succ _ _
/-- an error, ahead of overflow: of two matrices, and of another thing -/
def firstE (e f g : Int) : Int := if e ≠ 0 then e else if f ≠ 0 then f else g
theorem firstE_ways (e f g : Int) : (e ≠ 0 ∧ firstE e f g = e) ∨ (e = 0 ∧ f ≠ 0 ∧ firstE e f g = f) ∨ (e = 0 ∧ f = 0 ∧ firstE e f g = g) := by
  unfold firstE
  by_cases h : e = 0
  · by_cases h2 : f = 0
    · right; right; exact ⟨h, h2, by rw [if_neg (by simp [h]), if_neg (by simp [h2])]⟩
    · right; left; exact ⟨h, h2, by rw [if_neg (by simp [h]), if_pos h2]⟩
  · left; exact ⟨h, by rw [if_pos h]⟩
def sidesE (R C R' C' : Int) : Int := if R ≠ R' ∨ C ≠ C' then 11 else 0
/-- what stands ahead of overflow of two matrices -/
def pairF (R C : Int) (m : Nat) (xs : List Nat) (R' C' : Int) (m' : Nat) (ys : List Nat) : Int := firstE (finM R C m xs) (finM R' C' m' ys) (sidesE R C R' C')
theorem finM_ok {R C : Int} {m : Nat} {xs : List Nat} (h : finM R C m xs = 0) : mayM R C m = true ∧ finU xs m = 0 := by
  unfold finM at h
  cases hm : mayM R C m
  · rw [hm] at h; simp at h
  · rw [hm] at h; exact ⟨rfl, h⟩
theorem finM_ways (R C : Int) (m : Nat) (xs : List Nat) : finM R C m xs = 0 ∨ finM R C m xs = 11 ∨ finM R C m xs = 12 := by
  unfold finM
  cases mayM R C m
  · right; left; rfl
  · rcases finU_two xs m with h | h
    · left; exact h
    · right; right; exact h
theorem pairF_ok {R C R' C' : Int} {m m' : Nat} {xs ys : List Nat} (h : pairF R C m xs R' C' m' ys = 0) : finM R C m xs = 0 ∧ finM R' C' m' ys = 0 ∧ R = R' ∧ C = C' := by
  unfold pairF at h
  rcases firstE_ways (finM R C m xs) (finM R' C' m' ys) (sidesE R C R' C') with ⟨h1, h2⟩ | ⟨h1, h2, h3⟩ | ⟨h1, h2, h3⟩
  · exact absurd (h2 ▸ h) h1
  · exact absurd (h3 ▸ h) h2
  · rw [h3] at h
    unfold sidesE at h
    by_cases q : R ≠ R' ∨ C ≠ C'
    · rw [if_pos q] at h; exact absurd h (by decide)
    · refine ⟨h1, h2, Classical.byContradiction fun q1 => q (.inl q1), Classical.byContradiction fun q1 => q (.inr q1)⟩
/-- the numbers of a matrix that may be, by its error -/
theorem finU_finB (xs : List Nat) : finU xs xs.length = if finB xs xs.length then 0 else 12 := by
  rw [finU_any, finB_any']
  cases xs.any fun x => decide (2 ≤ cls x) <;> rfl
where
  finB_any' (xs : List Nat) : finB xs xs.length = !(xs.any fun x => decide (2 ≤ cls x)) := by
    cases h : xs.any (fun x => decide (2 ≤ cls x))
    · rw [Bool.not_false, finB_iff]
      intro j hj
      rw [List.any_eq_false] at h
      have := h (lim xs j) (by unfold lim; rw [List.getElem?_eq_getElem hj]; exact List.getElem_mem hj)
      simp only [decide_eq_true_eq] at this
      omega
    · rw [Bool.not_true]
      obtain ⟨x, hx, h2⟩ := List.any_eq_true.1 h
      obtain ⟨j, hj, rfl⟩ := List.getElem_of_mem hx
      refine finB_not hj ?_
      unfold lim
      rw [List.getElem?_eq_getElem hj]
      simpa using h2
theorem finM_may {R C : Int} {ws : List Nat} (h : mayM R C ws.length = true) : finM R C ws.length ws = if finB ws ws.length then 0 else 12 := by
  unfold finM
  rw [h, if_pos rfl, finU_finB]
theorem tellV_ways (ws : List Nat) (f : Int) : (f ≠ 0 ∧ tellV ws f = f) ∨ (f = 0 ∧ finB ws ws.length = true ∧ tellV ws f = 0) ∨ (f = 0 ∧ finB ws ws.length = false ∧ tellV ws f = 13) := by
  unfold tellV
  by_cases h : f = 0
  · right
    subst h
    rw [if_neg (by decide)]
    cases finB ws ws.length
    · right; exact ⟨rfl, rfl, rfl⟩
    · left; exact ⟨rfl, rfl, rfl⟩
  · left; exact ⟨h, by rw [if_pos h]⟩
/-- the words of row i -/
def rowL (xs : List Nat) (C i : Nat) : List Nat := rowV C fun j => lim xs (i * C + j)
theorem rowL_length (xs : List Nat) (C i : Nat) : (rowL xs C i).length = C := rowV_length _ _
theorem rowL_lim {xs : List Nat} {C i j : Nat} (h : j < C) : lim (rowL xs C i) j = lim xs (i * C + j) := rowV_lim _ h
theorem rowL_low {xs : List Nat} (h : Low 18446744073709551616 xs) (C i : Nat) : Low 18446744073709551616 (rowL xs C i) :=
  rowV_low fun j _ => by have := lim_lt h (by decide : 0 < 18446744073709551616) (i * C + j); omega
end Go.Proofs.Ytjapilpjahhimaa

/- mat: notFinite, copied, told, rowOf. -/
namespace Go.Proofs.Ytjapilpjahhimaa
open Go.RowKit Go.Shelf
theorem OwnK.put3 {k : IntKind} {t : TypeId} {n g : Nat} {W : World} {v : Value} {zs : List Int} (h : OwnK k t n W v zs) (hg : g < n) (x y z : Value) : OwnK k t n (((W.setCell ⟨g, 0, none⟩ x).setCell ⟨g, 1, none⟩ y).setCell ⟨g, 2, none⟩ z) v zs :=
  ((h.far (p := ⟨g, 0, none⟩) hg x).far (p := ⟨g, 1, none⟩) hg y).far (p := ⟨g, 2, none⟩) hg z
theorem mat_nf {x : Nat} {w : World} (hx : (x : Int) ≤ 18446744073709551615) : Calls Try.prog 65 #[.int .u64 (x : Int)] w fun e W' => e = .returned (.bool (decide (2 ≤ cls x))) ∧ w = W' := by
  have hc := pclass1 (a := x) (w := w) hx
  by_cases h : 2 ≤ cls x
  · have hd : decide ((1 : Int) < (cls x : Int)) = true := decide_eq_true (by omega)
    rw [decide_eq_true h]
    clear h
    generalize cls x = c at *
    go_enter Try.func65, Try.ntmps65
    go_wp2_with fail
    refine hc.mono ?_
    rintro e w1 ⟨rfl, rfl⟩
    clear hc
    go_wp2
    go_ret
    exact ⟨rfl, rfl⟩
  · have hd : decide ((1 : Int) < (cls x : Int)) = false := decide_eq_false (by omega)
    rw [decide_eq_false h]
    clear h
    generalize cls x = c at *
    go_enter Try.func65, Try.ntmps65
    go_wp2_with fail
    refine hc.mono ?_
    rintro e w1 ⟨rfl, rfl⟩
    clear hc
    go_wp2
    go_ret
    exact ⟨rfl, rfl⟩
theorem mat_contains {v : Value} {xs : List Nat} {w : World} (hA : Arg w v xs) (hl : Low 18446744073709551616 xs) (hn : xs.length ≤ 17592186044416) :
    Calls Try.prog 47 #[v, .func (.func 65) #[] #[]] w fun e W' => e = .returned (.bool (!finB xs xs.length)) ∧ Below w.heap.size w W' := by
  have h := containsFunc_u64 (k := 65) (fs := #[]) (fun x => decide (2 ≤ cls x)) hA (by omega) (enters_of Try.func65 (by kernel_rfl) rfl) (fun x W hx _ => (mat_nf (by have := hl x hx; omega)).mono fun e W' ⟨h1, h2⟩ => ⟨h1, h2 ▸ Below.refl _ _⟩)
  rwa [finB_any, Bool.not_not]
set_option maxHeartbeats 4000000 in
theorem mat_copied {a : Option Addr} {m cap : Nat} {R C : Int} {xs : List Nat} {w : World} (hA : Arg w (.slice a m cap) xs) (hn : xs.length ≤ 17592186044416) :
    Calls Try.prog 66 #[.agg #[.int .i64 R, .int .i64 C, .slice a m cap]] w fun e W' => ∃ b c, e = .returned (.agg #[.int .i64 R, .int .i64 C, .slice b m c]) ∧ OwnK .u64 49 w.heap.size W' (.slice b m c) (zn xs) ∧ Below w.heap.size w W' := by
  obtain ⟨B, G1, G2, hw0⟩ := vboxm w #[.int .i64 R, .int .i64 C, .slice a m cap] #[.int .i64 0, .int .i64 0, .slice none 0 0] 24 24 _ rfl
  have hml : m = xs.length := by
    obtain ⟨a', c', e⟩ := hA.slice
    simp only [Value.slice.injEq] at e
    omega
  have HC := Lib.hid (fun (W : World) (h : Below w.heap.size w W) => clone_own (.slice a m cap) xs hn W (hA.behind h))
  have c0 := G1.cell (i := 0) rfl
  have c1 := G1.cell (i := 1) rfl
  have c2 := G1.cell (i := 2) rfl
  have HL := Lib.hid hml
  clear hA hml
  go_enter Try.func66, Try.ntmps66
  go_wp2_with fail
  generalize (w.alloc (.cells #[.int .i64 R, .int .i64 C, .slice a m cap] 24)).alloc (.cells #[.int .i64 0, .int .i64 0, .slice none 0 0] 24) = W0 at *
  have f0 := G2.f 0
  have f1 := G2.f 1
  have f2 := G2.f 2
  have hg2 := Lib.hid hw0
  go_region_with (first
    | (go_at_call 89; refine (HC.out _ (by first | exact B | exact B.drew)).mono ?_; rintro e w3 ⟨v', rfl, ho, b4⟩; have hbs := B.size; obtain ⟨a8, c8, rfl⟩ := ho.len; rw [zn_length, ← HL.out] at ho ⊢; replace hg2 := (by first | exact Lib.hid (Nat.lt_of_lt_of_le hg2.out b4.size)); replace hw0 := (by first | exact Nat.lt_of_lt_of_le hw0 (Nat.le_refl _)); replace B := (by first | exact below_both B b4 | exact below_both B.drew b4); replace G1 := (by first | exact G1.behind b4 | exact G1.drew.behind b4); replace G2 := (by first | exact G2.behind b4 | exact G2.drew.behind b4); have c0 := G1.cell (i := 0) rfl; have c1 := G1.cell (i := 1) rfl; have c2 := G1.cell (i := 2) rfl; have g0 := G2.cell (i := 0) rfl; have g1 := G2.cell (i := 1) rfl; have g2 := G2.cell (i := 2) rfl; have f0 := G2.f 0; have f1 := G2.f 1; have f2 := G2.f 2))
  all_goals
    go_wp2
    exact bodyPost_ret (v := .agg #[.int .i64 R, .int .i64 C, .slice a8 m c8]) (by simp [results, Try.results66, go_sem, g0, g1, g2]) rfl
      ⟨_, _, rfl, (ho.put3 hw0 _ _ _).mono hbs, B.put3 (by omega) _ _ _⟩
set_option maxHeartbeats 4000000 in
theorem mat_told {b : Option Addr} {m c : Nat} {R C : Int} {xs : List Nat} {w : World} (hA : Arg w (.slice b m c) xs) (hl : Low 18446744073709551616 xs) (hn : xs.length ≤ 17592186044416) :
    Calls Try.prog 68 #[.agg #[.int .i64 R, .int .i64 C, .slice b m c]] w fun e W' => ((finB xs xs.length = true ∧ e = .returned (.tuple #[.agg #[.int .i64 R, .int .i64 C, .slice b m c], .int .i64 0])) ∨ (finB xs xs.length = false ∧ e = .returned (.tuple #[.agg #[.int .i64 0, .int .i64 0, .slice none 0 0], .int .i64 13]))) ∧ Below w.heap.size w W' := by
  obtain ⟨B, G1, G2, hw0⟩ := vboxm w #[.int .i64 R, .int .i64 C, .slice b m c] #[.int .i64 0, .int .i64 0, .slice none 0 0] 24 24 _ rfl
  have HC := Lib.hid (fun (W : World) (h : Below w.heap.size w W) => mat_contains (hA.behind h) hl hn)
  have c0 := G1.cell (i := 0) rfl
  have c1 := G1.cell (i := 1) rfl
  have c2 := G1.cell (i := 2) rfl
  clear hA hl
  cases hf : finB xs xs.length
  all_goals
    rw [hf] at HC
    clear hf
    go_enter Try.func68, Try.ntmps68
    go_wp2_with fail
    generalize (w.alloc (.cells #[.int .i64 R, .int .i64 C, .slice b m c] 24)).alloc (.cells #[.int .i64 0, .int .i64 0, .slice none 0 0] 24) = W0 at *
    refine (HC.out _ B).mono ?_
    rintro e w1 ⟨rfl, b1⟩
    clear HC
    have G1 := G1.behind b1
    have c0 := G1.cell (i := 0) rfl
    have c1 := G1.cell (i := 1) rfl
    have c2 := G1.cell (i := 2) rfl
    have G4 := G2.behind b1
    have g0 := G4.cell (i := 0) rfl
    have g1 := G4.cell (i := 1) rfl
    have g2 := G4.cell (i := 2) rfl
    have f0 := G4.f 0
    have f1 := G4.f 1
    have f2 := G4.f 2
    have HB := Lib.hid (below_both B b1)
    go_wp2
  · exact bodyPost_ret (v := .tuple #[.agg #[.int .i64 0, .int .i64 0, .slice none 0 0], .int .i64 13]) (by simp [results, Try.results68, go_sem, g0, g1, g2]) rfl
      ⟨.inr ⟨trivial, rfl⟩, HB.out.put3 (by omega) _ _ _⟩
  · exact bodyPost_ret (v := .tuple #[.agg #[.int .i64 R, .int .i64 C, .slice b m c], .int .i64 0]) (by simp [results, Try.results68, go_sem, g0, g1, g2]) rfl
      ⟨.inl ⟨trivial, rfl⟩, HB.out.put3 (by omega) _ _ _⟩
end Go.Proofs.Ytjapilpjahhimaa
