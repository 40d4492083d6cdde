/- view: what its calls keep: Check, Whole, Part, Get. -/
import Derived.Test.YtdcebkhdnhdejaaVwNum
import Derived.Test.YtdcebkhdnhdejaaShSpec
namespace Go.Proofs.Ytdcebkhdnhdejaa
open Go.RowKit Go.Shelf
def from0 (n most : Int) : Bool := decide (0 ≤ n ∧ n ≤ most)
theorem from0_iff {n most : Int} : from0 n most = true ↔ 0 ≤ n ∧ n ≤ most := decide_eq_true_iff
theorem from0_no {n most : Int} : from0 n most = false ↔ ¬ (0 ≤ n ∧ n ≤ most) := decide_eq_false_iff_not
def partB (f c a : Int) : Bool := decide (0 ≤ f ∧ f ≤ a ∧ 0 ≤ c ∧ c ≤ a - f)
theorem partB_of {f c a : Int} (h : from0 f a = true) : partB f c a = from0 c (a - f) := by
  have h := from0_iff.1 h
  unfold partB from0
  by_cases k : 0 ≤ c ∧ c ≤ a - f
  · rw [decide_eq_true ⟨h.1, h.2, k⟩, decide_eq_true k]
  · rw [decide_eq_false (fun q => k q.2.2), decide_eq_false k]
theorem partB_no {f c a : Int} (h : from0 f a = false) : partB f c a = false := by
  have h := from0_no.1 h
  exact decide_eq_false (fun q => h ⟨q.1, q.2.1⟩)
theorem view_from0 {n most : Int} {w : World} : Calls Try.prog 141 #[.int .i64 n, .int .i64 most] w fun e W' => e = .returned (.bool (from0 n most)) ∧ w = W' := by
  by_cases k1 : 0 ≤ n
  · by_cases k2 : n ≤ most
    · rw [show from0 n most = true from decide_eq_true ⟨k1, k2⟩]
      go_enter Try.func141, Try.ntmps141
      go_wp2
      go_ret
      exact ⟨rfl, rfl⟩
    · rw [show from0 n most = false from decide_eq_false (fun h => k2 h.2)]
      go_enter Try.func141, Try.ntmps141
      go_wp2
      go_ret
      exact ⟨rfl, rfl⟩
  · rw [show from0 n most = false from decide_eq_false (fun h => k1 h.1)]
    go_enter Try.func141, Try.ntmps141
    go_wp2
    go_ret
    exact ⟨rfl, rfl⟩
theorem view_isPart {f c a : Int} {w : World} (ha : a ≤ 9223372036854775807) : Calls Try.prog 120 #[.int .i64 f, .int .i64 c, .int .i64 a] w fun e W' => e = .returned (.bool (partB f c a)) ∧ w = W' := by
  cases h : from0 f a
  · rw [partB_no h]
    go_enter Try.func120, Try.ntmps120
    go_wp2_with (go_at_call 141; refine view_from0.mono ?_; rintro e w1 ⟨rfl, rfl⟩)
    go_ret
    exact ⟨rfl, rfl⟩
  · rw [partB_of h]
    have hq := from0_iff.1 h
    have hp : IntKind.i64.wrap (a - f) = a - f := IntWalk.i64_in _ (by omega)
    go_enter Try.func120, Try.ntmps120
    go_wp2_with (go_at_call 141; refine view_from0.mono ?_; rintro e w1 ⟨rfl, rfl⟩)
    go_ret
    exact ⟨rfl, rfl⟩
def hasB (R C : Int) : Bool := decide (0 < R ∧ 0 < C)
theorem view_has {R C S O : Int} {w : World} : Calls Try.prog 122 #[.agg #[.int .i64 R, .int .i64 C, .int .i64 S, .int .i64 O]] w fun e W' => e = .returned (.bool (hasB R C)) ∧ Below w.heap.size w W' := by
  obtain ⟨bx, G⟩ := mbox w #[.int .i64 R, .int .i64 C, .int .i64 S, .int .i64 O] 95 _ rfl
  have c0 := G.cell (i := 0) rfl
  have c1 := G.cell (i := 1) rfl
  by_cases k1 : 0 < R
  · by_cases k2 : 0 < C
    · rw [show hasB R C = true from decide_eq_true ⟨k1, k2⟩]
      go_enter Try.func122, Try.ntmps122
      go_wp2
      go_ret
      exact ⟨rfl, bx⟩
    · rw [show hasB R C = false from decide_eq_false (fun h => k2 h.2)]
      go_enter Try.func122, Try.ntmps122
      go_wp2
      go_ret
      exact ⟨rfl, bx⟩
  · rw [show hasB R C = false from decide_eq_false (fun h => k1 h.1)]
    go_enter Try.func122, Try.ntmps122
    go_wp2
    go_ret
    exact ⟨rfl, bx⟩
theorem view_number {R C S O i j : Int} {w : World} (i0 : 0 ≤ i) (i1 : i ≤ 64) (s0 : 0 ≤ S) (s1 : S ≤ 1048576) (o0 : 0 ≤ O) (o1 : O ≤ 1048576) (j0 : 0 ≤ j) (j1 : j ≤ 64) :
    Calls Try.prog 121 #[.agg #[.int .i64 R, .int .i64 C, .int .i64 S, .int .i64 O], .int .i64 i, .int .i64 j] w fun e W' => e = .returned (.int .i64 (O + i * S + j)) ∧ Below w.heap.size w W' := by
  obtain ⟨bx, G⟩ := mbox w #[.int .i64 R, .int .i64 C, .int .i64 S, .int .i64 O] 95 _ rfl
  have c2 := G.cell (i := 2) rfl
  have c3 := G.cell (i := 3) rfl
  have hb := wmul_in i0 i1 s0 s1
  have hp : IntKind.i64.wrap (i * S) = i * S := IntWalk.i64_in _ (by omega)
  have h1 : IntKind.i64.wrap (O + i * S) = O + i * S := IntWalk.i64_in _ (by omega)
  have h2 : IntKind.i64.wrap (O + i * S + j) = O + i * S + j := IntWalk.i64_in _ (by omega)
  go_enter Try.func121, Try.ntmps121
  go_wp2
  go_ret
  exact ⟨by first | rfl | simp [hp, h1, h2], bx⟩
theorem view_whole {a : Option Addr} {m cap : Nat} {R C : Int} {w : World} : Calls Try.prog 80 #[.agg #[.int .i64 R, .int .i64 C, .slice a m cap]] w fun e W' => e = .returned (.agg #[.int .i64 R, .int .i64 C, .int .i64 C, .int .i64 0]) ∧ Below w.heap.size w W' := by
  obtain ⟨b1, G⟩ := mbox w #[.int .i64 R, .int .i64 C, .slice a m cap] 24 _ rfl
  obtain ⟨b2, H⟩ := mbox (w.alloc (.cells #[.int .i64 R, .int .i64 C, .slice a m cap] 24)) #[.int .i64 0, .int .i64 0, .int .i64 0, .int .i64 0] 95 _ rfl
  replace G := G.behind b2
  have c0 := G.cell (i := 0) rfl
  have c1 := G.cell (i := 1) rfl
  have bb := below_both b1 b2
  have hsz := World.size_alloc w (.cells #[.int .i64 R, .int .i64 C, .slice a m cap] 24)
  rw [hsz] at H
  have d0 := H.cell (i := 0) rfl
  have d1 := H.cell (i := 1) rfl
  have d2 := H.cell (i := 2) rfl
  have d3 := H.cell (i := 3) rfl
  go_enter Try.func80, Try.ntmps80
  go_wp2
  exact bodyPost_ret (v := .agg #[.int .i64 R, .int .i64 C, .int .i64 C, .int .i64 0]) (by simp [results, Try.results80, go_sem]) rfl ⟨rfl, ((Below.refl _ w).alloc (Nat.le_refl _) _).alloc (by simp) _⟩
def chkW (R C S O words : Int) : Int := if mayW R C S O words then 0 else 11
set_option maxHeartbeats 4000000 in
theorem view_check {R C S O words : Int} {w : World} : Calls Try.prog 119 #[.agg #[.int .i64 R, .int .i64 C, .int .i64 S, .int .i64 O], .int .i64 words] w fun e W' => e = .returned (.int .i64 (chkW R C S O words)) ∧ Below w.heap.size w W' := by
  obtain ⟨B, G⟩ := mbox w #[.int .i64 R, .int .i64 C, .int .i64 S, .int .i64 O] 95 _ rfl
  have c0 := G.cell (i := 0) rfl
  have c1 := G.cell (i := 1) rfl
  have c2 := G.cell (i := 2) rfl
  have c3 := G.cell (i := 3) rfl
  have hno : ∀ (_ : ¬ (0 ≤ R ∧ R ≤ 64 ∧ 0 ≤ C ∧ C ≤ 64 ∧ C ≤ S ∧ S ≤ 1048576 ∧ 0 ≤ O ∧ O ≤ 1048576 ∧ (R = 0 ∨ C = 0 ∨ lastW R C S O < words))), chkW R C S O words = 11 := by
    intro h; unfold chkW; rw [show mayW R C S O words = false from decide_eq_false h]; rfl
  have hyes : ∀ (_ : 0 ≤ R ∧ R ≤ 64 ∧ 0 ≤ C ∧ C ≤ 64 ∧ C ≤ S ∧ S ≤ 1048576 ∧ 0 ≤ O ∧ O ≤ 1048576 ∧ (R = 0 ∨ C = 0 ∨ lastW R C S O < words)), chkW R C S O words = 0 := by
    intro h; unfold chkW; rw [mayW_iff.2 h]; rfl
  cases h1 : from0 R 64
  · have q1 := from0_no.1 h1
    rw [hno (fun h => q1 ⟨h.1, h.2.1⟩)]
    clear hno hyes q1
    go_enter Try.func119, Try.ntmps119
    go_wp2_with (go_at_call 141; refine view_from0.mono ?_; rintro e w1 ⟨rfl, rfl⟩)
    go_ret
    exact ⟨rfl, B⟩
  cases h2 : from0 C 64
  · have q1 := from0_no.1 h2
    rw [hno (fun h => q1 ⟨h.2.2.1, h.2.2.2.1⟩)]
    clear hno hyes q1
    go_enter Try.func119, Try.ntmps119
    go_wp2_with (go_at_call 141; refine view_from0.mono ?_; rintro e w1 ⟨rfl, rfl⟩)
    go_ret
    exact ⟨rfl, B⟩
  by_cases h3 : S < C
  · rw [hno (fun h => by omega)]
    clear hno hyes
    go_enter Try.func119, Try.ntmps119
    go_wp2_with (go_at_call 141; refine view_from0.mono ?_; rintro e w1 ⟨rfl, rfl⟩)
    go_ret
    exact ⟨rfl, B⟩
  by_cases h4 : 1048576 < S
  · rw [hno (fun h => by omega)]
    clear hno hyes
    go_enter Try.func119, Try.ntmps119
    go_wp2_with (go_at_call 141; refine view_from0.mono ?_; rintro e w1 ⟨rfl, rfl⟩)
    go_ret
    exact ⟨rfl, B⟩
  cases h5 : from0 O 1048576
  · have q1 := from0_no.1 h5
    rw [hno (fun h => q1 ⟨h.2.2.2.2.2.2.1, h.2.2.2.2.2.2.2.1⟩)]
    clear hno hyes q1
    go_enter Try.func119, Try.ntmps119
    go_wp2_with (go_at_call 141; refine view_from0.mono ?_; rintro e w1 ⟨rfl, rfl⟩)
    go_ret
    exact ⟨rfl, B⟩
  have q1 := from0_iff.1 h1
  have q2 := from0_iff.1 h2
  have q5 := from0_iff.1 h5
  cases h6 : hasB R C
  · have q6 : ¬ (0 < R ∧ 0 < C) := of_decide_eq_false h6
    rw [hyes ⟨q1.1, q1.2, q2.1, q2.2, by omega, by omega, q5.1, q5.2, by omega⟩]
    clear hno hyes q6 q1 q2 q5
    go_enter Try.func119, Try.ntmps119
    go_wp2_with (first | (go_at_call 141; refine view_from0.mono ?_; rintro e w1 ⟨rfl, rfl⟩) | (go_at_call 122; refine view_has.mono ?_; rintro e w2 ⟨rfl, b2⟩; replace G := G.behind b2; replace B := below_both B b2))
    go_ret
    exact ⟨rfl, B⟩
  have q6 : 0 < R ∧ 0 < C := of_decide_eq_true h6
  have hr : IntKind.i64.wrap (R - 1) = R - 1 := IntWalk.i64_in _ (by omega)
  have hc : IntKind.i64.wrap (C - 1) = C - 1 := IntWalk.i64_in _ (by omega)
  have hnum := fun w => view_number (R := R) (C := C) (S := S) (O := O) (i := R - 1) (j := C - 1) (w := w) (by omega) (by omega) (by omega) (by omega) (by omega) (by omega) (by omega) (by omega)
  have e9 : O + (R - 1) * S + (C - 1) = lastW R C S O := by unfold lastW; omega
  rw [e9] at hnum
  by_cases h7 : words ≤ lastW R C S O
  · rw [hno (fun h => by omega)]
    clear hno hyes q6 q1 q2 q5 e9
    generalize lastW R C S O = L at *
    go_enter Try.func119, Try.ntmps119
    go_wp2_with (first | (go_at_call 141; refine view_from0.mono ?_; rintro e w1 ⟨rfl, rfl⟩) | (go_at_call 122; refine view_has.mono ?_; rintro e w2 ⟨rfl, b2⟩; replace G := G.behind b2; replace B := below_both B b2; have c0 := G.cell (i := 0) rfl; have c1 := G.cell (i := 1) rfl; have c2 := G.cell (i := 2) rfl; have c3 := G.cell (i := 3) rfl) | (go_at_call 121; refine (hnum _).mono ?_; rintro e w3 ⟨rfl, b3⟩; replace B := below_both B b3))
    go_ret
    exact ⟨rfl, B⟩
  · rw [hyes ⟨q1.1, q1.2, q2.1, q2.2, by omega, by omega, q5.1, q5.2, .inr (.inr (by omega))⟩]
    clear hno hyes q6 q1 q2 q5 e9
    generalize lastW R C S O = L at *
    go_enter Try.func119, Try.ntmps119
    go_wp2_with (first | (go_at_call 141; refine view_from0.mono ?_; rintro e w1 ⟨rfl, rfl⟩) | (go_at_call 122; refine view_has.mono ?_; rintro e w2 ⟨rfl, b2⟩; replace G := G.behind b2; replace B := below_both B b2; have c0 := G.cell (i := 0) rfl; have c1 := G.cell (i := 1) rfl; have c2 := G.cell (i := 2) rfl; have c3 := G.cell (i := 3) rfl) | (go_at_call 121; refine (hnum _).mono ?_; rintro e w3 ⟨rfl, b3⟩; replace B := below_both B b3))
    go_ret
    exact ⟨rfl, B⟩
end Go.Proofs.Ytdcebkhdnhdejaa
