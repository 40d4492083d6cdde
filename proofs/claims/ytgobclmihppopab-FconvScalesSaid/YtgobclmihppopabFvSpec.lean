/- fconv: what its calls keep. -/
import Derived.Test.YtgobclmihppopabFvInt
import Derived.Test.YtgobclmihppopabFvWide
import Derived.Test.YtgobclmihppopabNums
namespace Go.Proofs.Ytgobclmihppopab
open Go.RowKit Go.Shelf
set_option maxRecDepth 100000 in
set_option maxHeartbeats 4000000 in
theorem fconv_int {n mode : Int} {w : World} (h1 : -9223372036854775808 ≤ n) (h2 : n ≤ 9223372036854775807) :
    Calls Try.prog 34 #[.int .i64 n, .int .i64 mode] w fun e W' => e = .returned (.tuple #[.int .u64 ((intB n mode).1 : Int), .int .i64 ((intB n mode).2 : Int)]) ∧ Below w.heap.size w W' := by
  obtain ⟨N, hN⟩ : ∃ N, N = n.natAbs := ⟨_, rfl⟩
  have e : prnd (decide (n < 0)) 0 N 0 false mode = intB n mode := by
    unfold intB
    by_cases h0 : n = 0
    · have hN0 : N = 0 := by omega
      rw [if_pos h0, hN0, decide_eq_false (by omega)]
      unfold prnd
      rw [Nat.zero_mul, if_pos rfl]
      rfl
    · rw [if_neg h0, prnd_plain (by omega) (by decide) (by decide), Nat.zero_mul, Nat.zero_add, hN]
  have hr := fun u => pround (neg := decide (n < 0)) (hi := 0) (lo := N) (exp := 0) (more := false) (mode := mode) (w := u) (by decide) (by omega) (by decide) (by decide)
  rw [e, show ((0 : Nat) : Int) = 0 from rfl] at hr
  generalize intB n mode = P at *
  clear e
  by_cases hn : n < 0
  · have d0 : decide (n < 0) = true := decide_eq_true hn
    have z : IntKind.u64.wrap (-IntKind.u64.wrap n) = (N : Int) := by rw [IntKind.wrap_u64, IntKind.wrap_u64]; omega
    rw [d0] at hr
    clear hN
    go_enter Try.func34, Try.ntmps34
    go_wp2_with fail
    refine (hr _).mono ?_
    rintro e w1 ⟨rfl, b1⟩
    go_wp2
    go_ret2
    exact ⟨rfl, b1⟩
  · have d0 : decide (n < 0) = false := decide_eq_false hn
    obtain rfl : n = (N : Int) := by omega
    rw [d0] at hr
    clear hN h1
    go_enter Try.func34, Try.ntmps34
    go_wp2_with fail
    refine (hr _).mono ?_
    rintro e w1 ⟨rfl, b1⟩
    go_wp2
    go_ret2
    exact ⟨rfl, b1⟩
/-- is an exponent within? -/
def expV (E : Int) : Bool := decide (-16384 ≤ E) && decide (E ≤ 16384)
theorem expV_iff {E : Int} : expV E = true ↔ -16384 ≤ E ∧ E ≤ 16384 := by simp [expV]
theorem expV_not {E : Int} (h : ¬ (-16384 ≤ E ∧ E ≤ 16384)) : expV E = false := by rw [← expV_iff] at h; simpa using h
theorem isExpV (E : Int) (w : World) :
    Calls Try.prog 91 #[.int .i64 E] w fun e W' => e = .returned (.bool (expV E)) ∧ w = W' := by
  by_cases h1 : -16384 ≤ E
  · by_cases h2 : E ≤ 16384
    · rw [expV_iff.2 ⟨h1, h2⟩]
      go_enter Try.func91, Try.ntmps91
      go_wp2
      go_ret
      exact ⟨rfl, rfl⟩
    · rw [expV_not (by omega)]
      go_enter Try.func91, Try.ntmps91
      go_wp2
      go_ret
      exact ⟨rfl, rfl⟩
  · rw [expV_not (by omega)]
    go_enter Try.func91, Try.ntmps91
    go_wp2
    go_ret
    exact ⟨rfl, rfl⟩
theorem checkV (s : Bool) (a : Option Addr) (m cap : Nat) (E : Int) (w : World) :
    Calls Try.prog 68 #[.agg #[.bool s, .slice a m cap, .int .i64 E]] w fun e W' => e = .returned (.int .i64 (if mayV m E then 0 else 9)) ∧ Below w.heap.size w W' := by
  have hbx := arr_new w #[.bool s, .slice a m cap, .int .i64 E] 48
  have hmv : mayV m E = (expV E && decide (m ≤ 1024)) := rfl
  rw [hmv]
  by_cases hE : expV E = true
  · have hx := isExpV E
    rw [hE] at hx ⊢
    by_cases hm : m ≤ 1024
    · have hd : decide (1024 < m) = false := decide_eq_false (by omega)
      rw [decide_eq_true hm]
      go_enter Try.func68, Try.ntmps68
      go_wp2_with fail
      obtain ⟨hB, G⟩ := hbx _ rfl
      generalize (w.alloc (.cells #[.bool s, .slice a m cap, .int .i64 E] 48)) = W0 at hB G ⊢
      have c1 := cell_of_row W0 _ 1 _ _ (0, 0) G
      have c2 := cell_of_row W0 _ 2 _ _ (0, 0) G
      simp only [List.getElem?_toArray, List.getElem?_cons_zero, List.getElem?_cons_succ] at c1 c2
      go_wp2_with fail
      refine (hx _).mono ?_
      rintro e w1 ⟨rfl, rfl⟩
      clear hx
      go_wp2
      go_ret
      exact ⟨rfl, hB⟩
    · have hd : decide (1024 < m) = true := decide_eq_true (by omega)
      rw [decide_eq_false hm]
      go_enter Try.func68, Try.ntmps68
      go_wp2_with fail
      obtain ⟨hB, G⟩ := hbx _ rfl
      generalize (w.alloc (.cells #[.bool s, .slice a m cap, .int .i64 E] 48)) = W0 at hB G ⊢
      have c1 := cell_of_row W0 _ 1 _ _ (0, 0) G
      have c2 := cell_of_row W0 _ 2 _ _ (0, 0) G
      simp only [List.getElem?_toArray, List.getElem?_cons_zero, List.getElem?_cons_succ] at c1 c2
      go_wp2_with fail
      refine (hx _).mono ?_
      rintro e w1 ⟨rfl, rfl⟩
      clear hx
      go_wp2
      go_ret
      exact ⟨rfl, hB⟩
  · have hE : expV E = false := by simpa using hE
    have hx := isExpV E
    rw [hE] at hx ⊢
    go_enter Try.func68, Try.ntmps68
    go_wp2_with fail
    obtain ⟨hB, G⟩ := hbx _ rfl
    generalize (w.alloc (.cells #[.bool s, .slice a m cap, .int .i64 E] 48)) = W0 at hB G ⊢
    have c1 := cell_of_row W0 _ 1 _ _ (0, 0) G
    have c2 := cell_of_row W0 _ 2 _ _ (0, 0) G
    simp only [List.getElem?_toArray, List.getElem?_cons_zero, List.getElem?_cons_succ] at c1 c2
    go_wp2_with fail
    refine (hx _).mono ?_
    rintro e w1 ⟨rfl, rfl⟩
    clear hx
    go_wp2
    go_ret
    exact ⟨rfl, hB⟩
set_option maxRecDepth 100000 in
set_option maxHeartbeats 4000000 in
theorem fconv_from {s : Bool} {a : Option Addr} {m cap M i : Nat} {x mode : Int} {w : World} (hN : Num w (.slice a m cap) M i) (hi : i ≤ 4398046511104) (h1 : -9223372036854775808 ≤ x) (h2 : x ≤ 9223372036854775807) :
    Calls Try.prog 37 #[.agg #[.bool s, .slice a m cap, .int .i64 x], .int .i64 mode] w fun e W' => ∃ (z f : Nat) (q : Int), e = .returned (.tuple #[.int .u64 (z : Int), .int .i64 (f : Int), .int .i64 q]) ∧
      (mayV m x = false → z = 0 ∧ f = 0 ∧ q = 9) ∧ (mayV m x = true → q = 0 ∧ (M = 0 → f = 0 ∧ (z = 0 ∨ z = 9223372036854775808)) ∧ (M ≠ 0 → rnd s M 1 x mode = (z, f))) ∧ Below w.heap.size w W' := by
  have hch := fun u => checkV s a m cap x u
  have hbx := arr_new w #[.bool s, .slice a m cap, .int .i64 x] 48
  by_cases hm : mayV m x = true
  · obtain ⟨x1, x2, x3⟩ := mayV_iff.1 hm
    rw [hm, if_pos rfl] at hch
    have hw := fun u (hb : Below w.heap.size w u) => pwide (s := s) (x := x) (mode := mode) (hN.behind hb) x3 x1 x2
    have HM := Lib.hid hm
    clear hN hi hm h1 h2 x1 x2 x3
    go_enter Try.func37, Try.ntmps37
    go_wp2_with fail
    obtain ⟨hB, G⟩ := hbx _ rfl
    generalize (w.alloc (.cells #[.bool s, .slice a m cap, .int .i64 x] 48)) = W0 at hB G ⊢
    have c0 := cell_of_row W0 _ 0 _ _ (0, 0) G
    have c1 := cell_of_row W0 _ 1 _ _ (0, 0) G
    have c2 := cell_of_row W0 _ 2 _ _ (0, 0) G
    simp only [List.getElem?_toArray, List.getElem?_cons_zero, List.getElem?_cons_succ] at c0 c1 c2
    go_wp2_with fail
    refine (hch _).mono ?_
    rintro e w1 ⟨rfl, b1⟩
    replace G := (b1.block _ (Array.getElem?_eq_some_iff.1 G).1).trans G
    replace hB := below_both hB b1
    clear hch b1 c0 c1 c2
    have c0 := cell_of_row w1 _ 0 _ _ (0, 0) G
    have c1 := cell_of_row w1 _ 1 _ _ (0, 0) G
    have c2 := cell_of_row w1 _ 2 _ _ (0, 0) G
    simp only [List.getElem?_toArray, List.getElem?_cons_zero, List.getElem?_cons_succ] at c0 c1 c2
    go_wp2_with fail
    refine (hw _ hB).mono ?_
    rintro e w2 ⟨z, f, rfl, q1, q2, b2⟩
    have Q1 := Lib.hid q1
    have Q2 := Lib.hid q2
    clear q1 q2 hw
    go_wp2
    go_ret3
    exact ⟨z, f, 0, rfl, fun h => absurd (HM.out.symm.trans h) (by decide), fun _ => ⟨rfl, Q1.out, Q2.out⟩, below_both hB b2⟩
  · have hm : mayV m x = false := by simpa using hm
    rw [hm, if_neg Bool.false_ne_true] at hch
    have HM := Lib.hid hm
    clear hN hi hm h1 h2
    go_enter Try.func37, Try.ntmps37
    go_wp2_with fail
    obtain ⟨hB, G⟩ := hbx _ rfl
    generalize (w.alloc (.cells #[.bool s, .slice a m cap, .int .i64 x] 48)) = W0 at hB G ⊢
    have c0 := cell_of_row W0 _ 0 _ _ (0, 0) G
    have c1 := cell_of_row W0 _ 1 _ _ (0, 0) G
    have c2 := cell_of_row W0 _ 2 _ _ (0, 0) G
    simp only [List.getElem?_toArray, List.getElem?_cons_zero, List.getElem?_cons_succ] at c0 c1 c2
    go_wp2_with fail
    refine (hch _).mono ?_
    rintro e w1 ⟨rfl, b1⟩
    clear hch
    go_wp2
    go_ret3
    exact ⟨0, 0, 9, rfl, fun _ => ⟨rfl, rfl, rfl⟩, fun h => absurd (HM.out.symm.trans h) (by decide), below_both hB b1⟩
end Go.Proofs.Ytgobclmihppopab
