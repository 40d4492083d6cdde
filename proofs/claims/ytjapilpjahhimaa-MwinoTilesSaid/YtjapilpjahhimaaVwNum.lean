/- Views: plain numbers. No program is named here. -/
import Derived.Test.YtjapilpjahhimaaArg
import Derived.Test.YtjapilpjahhimaaShSpec
import Derived.Deep.RegionWith
namespace Go.Proofs.Ytjapilpjahhimaa

/-- where the last place is -/
def lastW (R C S O : Int) : Int := O + (R - 1) * S + C - 1
/-- may a view be, of so many words? -/
def mayW (R C S O words : Int) : Bool := decide (0 ≤ R ∧ R ≤ 64 ∧ 0 ≤ C ∧ C ≤ 64 ∧ C ≤ S ∧ S ≤ 1048576 ∧ 0 ≤ O ∧ O ≤ 1048576 ∧ (R = 0 ∨ C = 0 ∨ lastW R C S O < words))
theorem mayW_iff {R C S O words : Int} : mayW R C S O words = true ↔ 0 ≤ R ∧ R ≤ 64 ∧ 0 ≤ C ∧ C ≤ 64 ∧ C ≤ S ∧ S ≤ 1048576 ∧ 0 ≤ O ∧ O ≤ 1048576 ∧ (R = 0 ∨ C = 0 ∨ lastW R C S O < words) := by
  unfold mayW
  exact decide_eq_true_iff
/-- does a part reach beyond? -/
def outP (R C i j rows cols : Int) : Bool := decide (i < 0 ∨ j < 0 ∨ rows < 0 ∨ cols < 0 ∨ R < i ∨ C < j ∨ R - i < rows ∨ C - j < cols)
/-- the word at a place -/
def getW (xs : List Nat) (m : Nat) (R C S O i j : Int) : Nat :=
  if mayW R C S O m = true ∧ 0 ≤ i ∧ i < R ∧ 0 ≤ j ∧ j < C then lim xs (O + i * S + j).toNat else 0
/-- a product, within bounds -/
theorem wmul_in {a b x y : Int} (h0 : 0 ≤ a) (h1 : a ≤ x) (k0 : 0 ≤ b) (k1 : b ≤ y) : 0 ≤ a * b ∧ a * b ≤ x * y :=
  ⟨Int.mul_nonneg h0 k0, Int.mul_le_mul h1 k1 k0 (Int.le_trans h0 h1)⟩
/-- a part's place is the view's -/
theorem part_place {R C S O i j rows cols r c : Int} {xs : List Nat} {m : Nat} (hv : mayW R C S O 1048576 = true) (hm : mayW R C S O m = true) (ho : outP R C i j rows cols = false) (h1 : 0 ≤ r) (h2 : r < rows) (h3 : 0 ≤ c) (h4 : c < cols) :
    getW xs m rows cols S (O + i * S + j) r c = getW xs m R C S O (i + r) (j + c) := by
  obtain ⟨a1, a2, a3, a4, a5, a6, a7, a8, a9⟩ := mayW_iff.1 hv
  obtain ⟨b1, b2, b3, b4, b5, b6, b7, b8, b9⟩ := mayW_iff.1 hm
  unfold outP at ho
  rw [decide_eq_false_iff_not] at ho
  simp only [not_or, Int.not_lt] at ho
  obtain ⟨o1, o2, o3, o4, o5, o6, o7, o8⟩ := ho
  unfold lastW at a9 b9
  have e1 : i * S + (rows - 1) * S = (i + rows - 1) * S := by rw [← Int.add_mul]; congr 1; omega
  have e2 : (R - 1) * S = (i + rows - 1) * S + (R - i - rows) * S := by rw [← Int.add_mul]; congr 1; omega
  have e3 : i * S + r * S = (i + r) * S := by rw [← Int.add_mul]
  have n1 : 0 ≤ (R - i - rows) * S := Int.mul_nonneg (by omega) (by omega)
  have n2 : 0 ≤ i * S := Int.mul_nonneg (by omega) (by omega)
  have n3 : 0 ≤ (rows - 1) * S := Int.mul_nonneg (by omega) (by omega)
  have hp : mayW rows cols S (O + i * S + j) m = true := by
    refine mayW_iff.2 ⟨by omega, by omega, by omega, by omega, by omega, by omega, by omega, ?_, ?_⟩
    · rcases a9 with h | h | h
      · omega
      · omega
      · omega
    · right; right
      unfold lastW
      rcases b9 with h | h | h
      · omega
      · omega
      · omega
  unfold getW
  rw [if_pos ⟨hp, h1, h2, h3, h4⟩, if_pos ⟨hm, by omega, by omega, by omega, by omega⟩]
  congr 2
  rw [← e3]
  omega
end Go.Proofs.Ytjapilpjahhimaa

/- view: what its calls keep: Check, Whole, Part, Get. -/
namespace Go.Proofs.Ytjapilpjahhimaa
open Go.RowKit Go.Shelf
def from0 (n most : Int) : Bool := decide (0 ≤ n ∧ n ≤ most)
theorem from0_iff {n most : Int} : from0 n most = true ↔ 0 ≤ n ∧ n ≤ most := decide_eq_true_iff
theorem from0_no {n most : Int} : from0 n most = false ↔ ¬ (0 ≤ n ∧ n ≤ most) := decide_eq_false_iff_not
def partB (f c a : Int) : Bool := decide (0 ≤ f ∧ f ≤ a ∧ 0 ≤ c ∧ c ≤ a - f)
theorem partB_of {f c a : Int} (h : from0 f a = true) : partB f c a = from0 c (a - f) := by
  have h := from0_iff.1 h
  unfold partB from0
  by_cases k : 0 ≤ c ∧ c ≤ a - f
  · rw [decide_eq_true ⟨h.1, h.2, k⟩, decide_eq_true k]
  · rw [decide_eq_false (fun q => k q.2.2), decide_eq_false k]
theorem partB_no {f c a : Int} (h : from0 f a = false) : partB f c a = false := by
  have h := from0_no.1 h
  exact decide_eq_false (fun q => h ⟨q.1, q.2.1⟩)
theorem view_from0 {n most : Int} {w : World} : Calls Try.prog 124 #[.int .i64 n, .int .i64 most] w fun e W' => e = .returned (.bool (from0 n most)) ∧ w = W' := by
  by_cases k1 : 0 ≤ n
  · by_cases k2 : n ≤ most
    · rw [show from0 n most = true from decide_eq_true ⟨k1, k2⟩]
      go_enter Try.func124, Try.ntmps124
      go_wp2
      go_ret
      exact ⟨rfl, rfl⟩
    · rw [show from0 n most = false from decide_eq_false (fun h => k2 h.2)]
      go_enter Try.func124, Try.ntmps124
      go_wp2
      go_ret
      exact ⟨rfl, rfl⟩
  · rw [show from0 n most = false from decide_eq_false (fun h => k1 h.1)]
    go_enter Try.func124, Try.ntmps124
    go_wp2
    go_ret
    exact ⟨rfl, rfl⟩
theorem view_isPart {f c a : Int} {w : World} (ha : a ≤ 9223372036854775807) : Calls Try.prog 114 #[.int .i64 f, .int .i64 c, .int .i64 a] w fun e W' => e = .returned (.bool (partB f c a)) ∧ w = W' := by
  cases h : from0 f a
  · rw [partB_no h]
    go_enter Try.func114, Try.ntmps114
    go_wp2_with (go_at_call 124; refine view_from0.mono ?_; rintro e w1 ⟨rfl, rfl⟩)
    go_ret
    exact ⟨rfl, rfl⟩
  · rw [partB_of h]
    have hq := from0_iff.1 h
    have hp : IntKind.i64.wrap (a - f) = a - f := IntWalk.i64_in _ (by omega)
    go_enter Try.func114, Try.ntmps114
    go_wp2_with (go_at_call 124; refine view_from0.mono ?_; rintro e w1 ⟨rfl, rfl⟩)
    go_ret
    exact ⟨rfl, rfl⟩
def hasB (R C : Int) : Bool := decide (0 < R ∧ 0 < C)
theorem view_has {R C S O : Int} {w : World} : Calls Try.prog 125 #[.agg #[.int .i64 R, .int .i64 C, .int .i64 S, .int .i64 O]] w fun e W' => e = .returned (.bool (hasB R C)) ∧ Below w.heap.size w W' := by
  obtain ⟨bx, G⟩ := mbox w #[.int .i64 R, .int .i64 C, .int .i64 S, .int .i64 O] 38 _ rfl
  have c0 := G.cell (i := 0) rfl
  have c1 := G.cell (i := 1) rfl
  by_cases k1 : 0 < R
  · by_cases k2 : 0 < C
    · rw [show hasB R C = true from decide_eq_true ⟨k1, k2⟩]
      go_enter Try.func125, Try.ntmps125
      go_wp2
      go_ret
      exact ⟨rfl, bx⟩
    · rw [show hasB R C = false from decide_eq_false (fun h => k2 h.2)]
      go_enter Try.func125, Try.ntmps125
      go_wp2
      go_ret
      exact ⟨rfl, bx⟩
  · rw [show hasB R C = false from decide_eq_false (fun h => k1 h.1)]
    go_enter Try.func125, Try.ntmps125
    go_wp2
    go_ret
    exact ⟨rfl, bx⟩
theorem view_number {R C S O i j : Int} {w : World} (i0 : 0 ≤ i) (i1 : i ≤ 64) (s0 : 0 ≤ S) (s1 : S ≤ 1048576) (o0 : 0 ≤ O) (o1 : O ≤ 1048576) (j0 : 0 ≤ j) (j1 : j ≤ 64) :
    Calls Try.prog 115 #[.agg #[.int .i64 R, .int .i64 C, .int .i64 S, .int .i64 O], .int .i64 i, .int .i64 j] w fun e W' => e = .returned (.int .i64 (O + i * S + j)) ∧ Below w.heap.size w W' := by
  obtain ⟨bx, G⟩ := mbox w #[.int .i64 R, .int .i64 C, .int .i64 S, .int .i64 O] 38 _ rfl
  have c2 := G.cell (i := 2) rfl
  have c3 := G.cell (i := 3) rfl
  have hb := wmul_in i0 i1 s0 s1
  have hp : IntKind.i64.wrap (i * S) = i * S := IntWalk.i64_in _ (by omega)
  have h1 : IntKind.i64.wrap (O + i * S) = O + i * S := IntWalk.i64_in _ (by omega)
  have h2 : IntKind.i64.wrap (O + i * S + j) = O + i * S + j := IntWalk.i64_in _ (by omega)
  go_enter Try.func115, Try.ntmps115
  go_wp2
  go_ret
  exact ⟨by first | rfl | simp [hp, h1, h2], bx⟩
theorem view_whole {a : Option Addr} {m cap : Nat} {R C : Int} {w : World} : Calls Try.prog 83 #[.agg #[.int .i64 R, .int .i64 C, .slice a m cap]] w fun e W' => e = .returned (.agg #[.int .i64 R, .int .i64 C, .int .i64 C, .int .i64 0]) ∧ Below w.heap.size w W' := by
  obtain ⟨b1, G⟩ := mbox w #[.int .i64 R, .int .i64 C, .slice a m cap] 24 _ rfl
  obtain ⟨b2, H⟩ := mbox (w.alloc (.cells #[.int .i64 R, .int .i64 C, .slice a m cap] 24)) #[.int .i64 0, .int .i64 0, .int .i64 0, .int .i64 0] 38 _ rfl
  replace G := G.behind b2
  have c0 := G.cell (i := 0) rfl
  have c1 := G.cell (i := 1) rfl
  have bb := below_both b1 b2
  have hsz := World.size_alloc w (.cells #[.int .i64 R, .int .i64 C, .slice a m cap] 24)
  rw [hsz] at H
  have d0 := H.cell (i := 0) rfl
  have d1 := H.cell (i := 1) rfl
  have d2 := H.cell (i := 2) rfl
  have d3 := H.cell (i := 3) rfl
  go_enter Try.func83, Try.ntmps83
  go_wp2
  exact bodyPost_ret (v := .agg #[.int .i64 R, .int .i64 C, .int .i64 C, .int .i64 0]) (by simp [results, Try.results83, go_sem]) rfl ⟨rfl, ((Below.refl _ w).alloc (Nat.le_refl _) _).alloc (by simp) _⟩
def chkW (R C S O words : Int) : Int := if mayW R C S O words then 0 else 11
set_option maxHeartbeats 4000000 in
theorem view_check {R C S O words : Int} {w : World} : Calls Try.prog 113 #[.agg #[.int .i64 R, .int .i64 C, .int .i64 S, .int .i64 O], .int .i64 words] w fun e W' => e = .returned (.int .i64 (chkW R C S O words)) ∧ Below w.heap.size w W' := by
  obtain ⟨B, G⟩ := mbox w #[.int .i64 R, .int .i64 C, .int .i64 S, .int .i64 O] 38 _ rfl
  have c0 := G.cell (i := 0) rfl
  have c1 := G.cell (i := 1) rfl
  have c2 := G.cell (i := 2) rfl
  have c3 := G.cell (i := 3) rfl
  have hno : ∀ (_ : ¬ (0 ≤ R ∧ R ≤ 64 ∧ 0 ≤ C ∧ C ≤ 64 ∧ C ≤ S ∧ S ≤ 1048576 ∧ 0 ≤ O ∧ O ≤ 1048576 ∧ (R = 0 ∨ C = 0 ∨ lastW R C S O < words))), chkW R C S O words = 11 := by
    intro h; unfold chkW; rw [show mayW R C S O words = false from decide_eq_false h]; rfl
  have hyes : ∀ (_ : 0 ≤ R ∧ R ≤ 64 ∧ 0 ≤ C ∧ C ≤ 64 ∧ C ≤ S ∧ S ≤ 1048576 ∧ 0 ≤ O ∧ O ≤ 1048576 ∧ (R = 0 ∨ C = 0 ∨ lastW R C S O < words)), chkW R C S O words = 0 := by
    intro h; unfold chkW; rw [mayW_iff.2 h]; rfl
  cases h1 : from0 R 64
  · have q1 := from0_no.1 h1
    rw [hno (fun h => q1 ⟨h.1, h.2.1⟩)]
    clear hno hyes q1
    go_enter Try.func113, Try.ntmps113
    go_wp2_with (go_at_call 124; refine view_from0.mono ?_; rintro e w1 ⟨rfl, rfl⟩)
    go_ret
    exact ⟨rfl, B⟩
  cases h2 : from0 C 64
  · have q1 := from0_no.1 h2
    rw [hno (fun h => q1 ⟨h.2.2.1, h.2.2.2.1⟩)]
    clear hno hyes q1
    go_enter Try.func113, Try.ntmps113
    go_wp2_with (go_at_call 124; refine view_from0.mono ?_; rintro e w1 ⟨rfl, rfl⟩)
    go_ret
    exact ⟨rfl, B⟩
  by_cases h3 : S < C
  · rw [hno (fun h => by omega)]
    clear hno hyes
    go_enter Try.func113, Try.ntmps113
    go_wp2_with (go_at_call 124; refine view_from0.mono ?_; rintro e w1 ⟨rfl, rfl⟩)
    go_ret
    exact ⟨rfl, B⟩
  by_cases h4 : 1048576 < S
  · rw [hno (fun h => by omega)]
    clear hno hyes
    go_enter Try.func113, Try.ntmps113
    go_wp2_with (go_at_call 124; refine view_from0.mono ?_; rintro e w1 ⟨rfl, rfl⟩)
    go_ret
    exact ⟨rfl, B⟩
  cases h5 : from0 O 1048576
  · have q1 := from0_no.1 h5
    rw [hno (fun h => q1 ⟨h.2.2.2.2.2.2.1, h.2.2.2.2.2.2.2.1⟩)]
    clear hno hyes q1
    go_enter Try.func113, Try.ntmps113
    go_wp2_with (go_at_call 124; refine view_from0.mono ?_; rintro e w1 ⟨rfl, rfl⟩)
    go_ret
    exact ⟨rfl, B⟩
  have q1 := from0_iff.1 h1
  have q2 := from0_iff.1 h2
  have q5 := from0_iff.1 h5
  cases h6 : hasB R C
  · have q6 : ¬ (0 < R ∧ 0 < C) := of_decide_eq_false h6
    rw [hyes ⟨q1.1, q1.2, q2.1, q2.2, by omega, by omega, q5.1, q5.2, by omega⟩]
    clear hno hyes q6 q1 q2 q5
    go_enter Try.func113, Try.ntmps113
    go_wp2_with (first | (go_at_call 124; refine view_from0.mono ?_; rintro e w1 ⟨rfl, rfl⟩) | (go_at_call 125; refine view_has.mono ?_; rintro e w2 ⟨rfl, b2⟩; replace G := G.behind b2; replace B := below_both B b2))
    go_ret
    exact ⟨rfl, B⟩
  have q6 : 0 < R ∧ 0 < C := of_decide_eq_true h6
  have hr : IntKind.i64.wrap (R - 1) = R - 1 := IntWalk.i64_in _ (by omega)
  have hc : IntKind.i64.wrap (C - 1) = C - 1 := IntWalk.i64_in _ (by omega)
  have hnum := fun w => view_number (R := R) (C := C) (S := S) (O := O) (i := R - 1) (j := C - 1) (w := w) (by omega) (by omega) (by omega) (by omega) (by omega) (by omega) (by omega) (by omega)
  have e9 : O + (R - 1) * S + (C - 1) = lastW R C S O := by unfold lastW; omega
  rw [e9] at hnum
  by_cases h7 : words ≤ lastW R C S O
  · rw [hno (fun h => by omega)]
    clear hno hyes q6 q1 q2 q5 e9
    generalize lastW R C S O = L at *
    go_enter Try.func113, Try.ntmps113
    go_wp2_with (first | (go_at_call 124; refine view_from0.mono ?_; rintro e w1 ⟨rfl, rfl⟩) | (go_at_call 125; refine view_has.mono ?_; rintro e w2 ⟨rfl, b2⟩; replace G := G.behind b2; replace B := below_both B b2; have c0 := G.cell (i := 0) rfl; have c1 := G.cell (i := 1) rfl; have c2 := G.cell (i := 2) rfl; have c3 := G.cell (i := 3) rfl) | (go_at_call 115; refine (hnum _).mono ?_; rintro e w3 ⟨rfl, b3⟩; replace B := below_both B b3))
    go_ret
    exact ⟨rfl, B⟩
  · rw [hyes ⟨q1.1, q1.2, q2.1, q2.2, by omega, by omega, q5.1, q5.2, .inr (.inr (by omega))⟩]
    clear hno hyes q6 q1 q2 q5 e9
    generalize lastW R C S O = L at *
    go_enter Try.func113, Try.ntmps113
    go_wp2_with (first | (go_at_call 124; refine view_from0.mono ?_; rintro e w1 ⟨rfl, rfl⟩) | (go_at_call 125; refine view_has.mono ?_; rintro e w2 ⟨rfl, b2⟩; replace G := G.behind b2; replace B := below_both B b2; have c0 := G.cell (i := 0) rfl; have c1 := G.cell (i := 1) rfl; have c2 := G.cell (i := 2) rfl; have c3 := G.cell (i := 3) rfl) | (go_at_call 115; refine (hnum _).mono ?_; rintro e w3 ⟨rfl, b3⟩; replace B := below_both B b3))
    go_ret
    exact ⟨rfl, B⟩
end Go.Proofs.Ytjapilpjahhimaa

/- view: Part, Get. -/
namespace Go.Proofs.Ytjapilpjahhimaa
open Go.RowKit Go.Shelf
theorem _root_.Go.RowKit.Below.put4 {B g : Nat} {w W : World} (h : Below B w W) (hg : B ≤ g) (x y z u : Value) : Below B w ((((W.setCell ⟨g, 0, none⟩ x).setCell ⟨g, 1, none⟩ y).setCell ⟨g, 2, none⟩ z).setCell ⟨g, 3, none⟩ u) :=
  (((h.setCell (p := ⟨g, 0, none⟩) hg x).setCell (p := ⟨g, 1, none⟩) hg y).setCell (p := ⟨g, 2, none⟩) hg z).setCell (p := ⟨g, 3, none⟩) hg u
def VV (R C S O : Int) : Array Value := #[.int .i64 R, .int .i64 C, .int .i64 S, .int .i64 O]
theorem vbox2 (w : World) (c d : Array Value) (t u : TypeId) (W : World) (h : W = (w.alloc (.cells c t)).alloc (.cells d u)) : Below w.heap.size w W ∧ Ms W w.heap.size c t ∧ Ms W (w.heap.size + 1) d u ∧ w.heap.size + 1 < W.heap.size := by
  subst h
  have b1 := (Below.refl _ w).alloc (Nat.le_refl _) (.cells c t)
  have b2 := (Below.refl _ (w.alloc (.cells c t))).alloc (Nat.le_refl _) (.cells d u)
  have G1 : Ms (w.alloc (.cells c t)) w.heap.size c t := World.alloc_heap_new w _
  have G2 := World.alloc_heap_new (w.alloc (.cells c t)) (.cells d u)
  rw [World.size_alloc] at G2
  refine ⟨below_both b1 b2, G1.behind b2, G2, ?_⟩
  rw [World.size_alloc, World.size_alloc]; omega
theorem outP_no {R C i j rows cols : Int} (h : outP R C i j rows cols = false) : partB i rows R = true ∧ partB j cols C = true := by
  unfold outP at h
  rw [decide_eq_false_iff_not] at h
  exact ⟨decide_eq_true (by omega), decide_eq_true (by omega)⟩
theorem outP_yes {R C i j rows cols : Int} (h : outP R C i j rows cols = true) : partB i rows R = false ∨ partB j cols C = false := by
  unfold outP at h
  rw [decide_eq_true_eq] at h
  by_cases k : 0 ≤ i ∧ i ≤ R ∧ 0 ≤ rows ∧ rows ≤ R - i
  · exact .inr (decide_eq_false (by omega))
  · exact .inl (decide_eq_false k)
set_option maxHeartbeats 4000000 in
theorem view_part {R C S O i j rows cols : Int} {w : World} (hv : mayW R C S O 1048576 = true) (ho : outP R C i j rows cols = false) :
    Calls Try.prog 103 #[.agg #[.int .i64 R, .int .i64 C, .int .i64 S, .int .i64 O], .int .i64 i, .int .i64 j, .int .i64 rows, .int .i64 cols] w fun e W' => e = .returned (.tuple #[.agg #[.int .i64 rows, .int .i64 cols, .int .i64 S, .int .i64 (O + i * S + j)], .int .i64 0]) ∧ Below w.heap.size w W' := by
  obtain ⟨B, G1, G2, hw0⟩ := vbox2 w #[.int .i64 R, .int .i64 C, .int .i64 S, .int .i64 O] #[.int .i64 0, .int .i64 0, .int .i64 0, .int .i64 0] 38 38 _ rfl
  have hk := fun w => view_check (R := R) (C := C) (S := S) (O := O) (words := 1048576) (w := w)
  rw [show chkW R C S O 1048576 = 0 by unfold chkW; rw [hv]; rfl] at hk
  have hb := mayW_iff.1 hv
  obtain ⟨p1, p2⟩ := outP_no ho
  have q1 : 0 ≤ i ∧ i ≤ R ∧ 0 ≤ rows ∧ rows ≤ R - i := of_decide_eq_true p1
  have q2 : 0 ≤ j ∧ j ≤ C ∧ 0 ≤ cols ∧ cols ≤ C - j := of_decide_eq_true p2
  have hnum := fun w => view_number (R := R) (C := C) (S := S) (O := O) (i := i) (j := j) (w := w) (by omega) (by omega) (by omega) (by omega) (by omega) (by omega) (by omega) (by omega)
  have h1 := fun w => view_isPart (f := i) (c := rows) (a := R) (w := w) (by omega)
  have h2 := fun w => view_isPart (f := j) (c := cols) (a := C) (w := w) (by omega)
  rw [p1] at h1
  rw [p2] at h2
  generalize O + i * S + j = L at *
  have c0 := G1.cell (i := 0) rfl
  have c1 := G1.cell (i := 1) rfl
  have c2 := G1.cell (i := 2) rfl
  have c3 := G1.cell (i := 3) rfl
  clear hv ho p1 p2 q1 q2 hb
  go_enter Try.func103, Try.ntmps103
  go_wp2_with fail
  generalize (w.alloc (.cells #[.int .i64 R, .int .i64 C, .int .i64 S, .int .i64 O] 38)).alloc (.cells #[.int .i64 0, .int .i64 0, .int .i64 0, .int .i64 0] 38) = W0 at *
  refine (hk _).mono ?_
  rintro e w1 ⟨rfl, b3⟩
  clear hk
  replace B := below_both B b3
  replace G1 := G1.behind b3
  replace G2 := G2.behind b3
  have hw1 := Nat.lt_of_lt_of_le hw0 b3.size
  have c0 := G1.cell (i := 0) rfl
  have c1 := G1.cell (i := 1) rfl
  have c2 := G1.cell (i := 2) rfl
  have c3 := G1.cell (i := 3) rfl
  go_wp2_with fail
  refine (h1 _).mono ?_
  rintro e w2 ⟨rfl, rfl⟩
  go_wp2_with fail
  refine (h2 _).mono ?_
  rintro e w2 ⟨rfl, rfl⟩
  clear h1 h2
  go_wp2
  have g0 := G2.cell (i := 0) rfl
  have f0 := G2.f 0
  have f1 := G2.f 1
  have f2 := G2.f 2
  have f3 := G2.f 3
  go_region_with (first
    | (go_at_call 115; refine (hnum _).mono ?_; rintro e w3 ⟨rfl, b4⟩; replace B := (by first | exact below_both B b4 | exact below_both B.drew b4); replace G1 := (by first | exact G1.behind b4 | exact G1.drew.behind b4); replace G2 := (by first | exact G2.behind b4 | exact G2.drew.behind b4); have c0 := G1.cell (i := 0) rfl; have c1 := G1.cell (i := 1) rfl; have c2 := G1.cell (i := 2) rfl; have c3 := G1.cell (i := 3) rfl; have g0 := G2.cell (i := 0) rfl; have g1 := G2.cell (i := 1) rfl; have g2 := G2.cell (i := 2) rfl; have g3 := G2.cell (i := 3) rfl; have f0 := G2.f 0; have f1 := G2.f 1; have f2 := G2.f 2; have f3 := G2.f 3))
  all_goals
    go_wp2
    exact bodyPost_ret (v := .tuple #[.agg #[.int .i64 rows, .int .i64 cols, .int .i64 S, .int .i64 L], .int .i64 0]) (by simp [results, Try.results103, go_sem, g0, g1, g2, g3]) rfl
      ⟨rfl, B.put4 (by omega) _ _ _ _⟩
set_option maxHeartbeats 4000000 in
theorem view_part_no {R C S O i j rows cols : Int} {w : World} (hv : mayW R C S O 1048576 = false) :
    Calls Try.prog 103 #[.agg #[.int .i64 R, .int .i64 C, .int .i64 S, .int .i64 O], .int .i64 i, .int .i64 j, .int .i64 rows, .int .i64 cols] w fun e W' => e = .returned (.tuple #[.agg #[.int .i64 0, .int .i64 0, .int .i64 0, .int .i64 0], .int .i64 11]) ∧ Below w.heap.size w W' := by
  obtain ⟨B, G1, G2, hw0⟩ := vbox2 w #[.int .i64 R, .int .i64 C, .int .i64 S, .int .i64 O] #[.int .i64 0, .int .i64 0, .int .i64 0, .int .i64 0] 38 38 _ rfl
  have hk := fun w => view_check (R := R) (C := C) (S := S) (O := O) (words := 1048576) (w := w)
  rw [show chkW R C S O 1048576 = 11 by unfold chkW; rw [hv]; rfl] at hk
  clear hv
  have c0 := G1.cell (i := 0) rfl
  have c1 := G1.cell (i := 1) rfl
  have c2 := G1.cell (i := 2) rfl
  have c3 := G1.cell (i := 3) rfl
  go_enter Try.func103, Try.ntmps103
  go_wp2_with fail
  generalize (w.alloc (.cells #[.int .i64 R, .int .i64 C, .int .i64 S, .int .i64 O] 38)).alloc (.cells #[.int .i64 0, .int .i64 0, .int .i64 0, .int .i64 0] 38) = W0 at *
  refine (hk _).mono ?_
  rintro e w1 ⟨rfl, b3⟩
  clear hk
  replace B := below_both B b3
  replace G1 := G1.behind b3
  replace G2 := G2.behind b3
  have hw1 := Nat.lt_of_lt_of_le hw0 b3.size
  have c0 := G1.cell (i := 0) rfl
  have c1 := G1.cell (i := 1) rfl
  have c2 := G1.cell (i := 2) rfl
  have c3 := G1.cell (i := 3) rfl
  have g0 := G2.cell (i := 0) rfl
  have g1 := G2.cell (i := 1) rfl
  have g2 := G2.cell (i := 2) rfl
  have g3 := G2.cell (i := 3) rfl
  have f0 := G2.f 0
  have f1 := G2.f 1
  have f2 := G2.f 2
  have f3 := G2.f 3
  go_wp2
  exact bodyPost_ret (v := .tuple #[.agg #[.int .i64 0, .int .i64 0, .int .i64 0, .int .i64 0], .int .i64 11]) (by simp [results, Try.results103, go_sem, g0, g1, g2, g3]) rfl
    ⟨rfl, B.put4 (by omega) _ _ _ _⟩
set_option maxHeartbeats 4000000 in
theorem view_part_out {R C S O i j rows cols : Int} {w : World} (hv : mayW R C S O 1048576 = true) (ho : outP R C i j rows cols = true) :
    Calls Try.prog 103 #[.agg #[.int .i64 R, .int .i64 C, .int .i64 S, .int .i64 O], .int .i64 i, .int .i64 j, .int .i64 rows, .int .i64 cols] w fun e W' => e = .returned (.tuple #[.agg #[.int .i64 0, .int .i64 0, .int .i64 0, .int .i64 0], .int .i64 4]) ∧ Below w.heap.size w W' := by
  obtain ⟨B, G1, G2, hw0⟩ := vbox2 w #[.int .i64 R, .int .i64 C, .int .i64 S, .int .i64 O] #[.int .i64 0, .int .i64 0, .int .i64 0, .int .i64 0] 38 38 _ rfl
  have hk := fun w => view_check (R := R) (C := C) (S := S) (O := O) (words := 1048576) (w := w)
  rw [show chkW R C S O 1048576 = 0 by unfold chkW; rw [hv]; rfl] at hk
  have hb := mayW_iff.1 hv
  have h1 := fun w => view_isPart (f := i) (c := rows) (a := R) (w := w) (by omega)
  have h2 := fun w => view_isPart (f := j) (c := cols) (a := C) (w := w) (by omega)
  have HY := Lib.hid (outP_yes ho)
  clear hv ho hb
  have c0 := G1.cell (i := 0) rfl
  have c1 := G1.cell (i := 1) rfl
  have c2 := G1.cell (i := 2) rfl
  have c3 := G1.cell (i := 3) rfl
  go_enter Try.func103, Try.ntmps103
  go_wp2_with fail
  generalize (w.alloc (.cells #[.int .i64 R, .int .i64 C, .int .i64 S, .int .i64 O] 38)).alloc (.cells #[.int .i64 0, .int .i64 0, .int .i64 0, .int .i64 0] 38) = W0 at *
  refine (hk _).mono ?_
  rintro e w1 ⟨rfl, b3⟩
  clear hk
  replace B := below_both B b3
  replace G1 := G1.behind b3
  replace G2 := G2.behind b3
  have hw1 := Nat.lt_of_lt_of_le hw0 b3.size
  have c0 := G1.cell (i := 0) rfl
  have c1 := G1.cell (i := 1) rfl
  have c2 := G1.cell (i := 2) rfl
  have c3 := G1.cell (i := 3) rfl
  have g0 := G2.cell (i := 0) rfl
  have g1 := G2.cell (i := 1) rfl
  have g2 := G2.cell (i := 2) rfl
  have g3 := G2.cell (i := 3) rfl
  have f0 := G2.f 0
  have f1 := G2.f 1
  have f2 := G2.f 2
  have f3 := G2.f 3
  cases k : partB i rows R
  · rw [k] at h1
    clear k
    go_wp2_with fail
    refine (h1 _).mono ?_
    rintro e w2 ⟨rfl, rfl⟩
    clear h1 h2
    go_wp2
    exact bodyPost_ret (v := .tuple #[.agg #[.int .i64 0, .int .i64 0, .int .i64 0, .int .i64 0], .int .i64 4]) (by simp [results, Try.results103, go_sem, g0, g1, g2, g3]) rfl
      ⟨rfl, B.put4 (by omega) _ _ _ _⟩
  · have k2 : partB j cols C = false := HY.out.resolve_left (by rw [k]; decide)
    rw [k] at h1
    rw [k2] at h2
    clear k k2
    go_wp2_with fail
    refine (h1 _).mono ?_
    rintro e w2 ⟨rfl, rfl⟩
    go_wp2_with fail
    refine (h2 _).mono ?_
    rintro e w2 ⟨rfl, rfl⟩
    clear h1 h2
    go_wp2
    exact bodyPost_ret (v := .tuple #[.agg #[.int .i64 0, .int .i64 0, .int .i64 0, .int .i64 0], .int .i64 4]) (by simp [results, Try.results103, go_sem, g0, g1, g2, g3]) rfl
      ⟨rfl, B.put4 (by omega) _ _ _ _⟩
theorem partB_one (i R : Int) : partB i 1 R = decide (0 ≤ i ∧ i < R) := by
  unfold partB
  by_cases h : 0 ≤ i ∧ i < R
  · rw [decide_eq_true h, decide_eq_true (by omega)]
  · rw [decide_eq_false h, decide_eq_false (by omega)]
end Go.Proofs.Ytjapilpjahhimaa
