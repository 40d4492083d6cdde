/- fcmp: what its calls keep. -/
import Derived.Test.YtgobclmihppopabPaSpec
import Derived.Test.YtgobclmihppopabFcNum
import Derived.Test.YtgobclmihppopabFlip
import Derived.Test.YtgobclmihppopabSmall
import Derived.Test.YtgobclmihppopabNums
import Derived.Laws.Bits64
namespace Go.Proofs.Ytgobclmihppopab
open Go.RowKit Go.Shelf

/-- is one of the first ones no number? -/
def anyN (xs : List Nat) : Nat → Bool
  | 0 => false
  | k + 1 => anyN xs k || !isNum (lim xs k)
theorem anyN_up {xs : List Nat} {k : Nat} (h : anyN xs k = true) (d : Nat) : anyN xs (k + d) = true := by
  induction d with
  | zero => exact h
  | succ d ih =>
    show (anyN xs (k + d) || !isNum (lim xs (k + d))) = true
    rw [ih]
    rfl
theorem anyN_false {xs : List Nat} {k n : Nat} (h : anyN xs n = false) (hk : k ≤ n) : anyN xs k = false := by
  cases hc : anyN xs k
  · rfl
  · have := anyN_up hc (n - k)
    rw [show k + (n - k) = n by omega, h] at this
    exact Bool.noConfusion this
theorem max_some {xs : List Nat} (k : Nat) (h : anyN xs k = false) : maxU xs k ≤ 9218868437227405312 := by
  induction k with
  | zero => exact Nat.zero_le _
  | succ k ih =>
    have h1 : (anyN xs k || !isNum (lim xs k)) = false := h
    rw [Bool.or_eq_false_iff] at h1
    have h2 := ih h1.1
    have h3 : isNum (lim xs k) = true := by
      have := h1.2
      cases hc : isNum (lim xs k)
      · rw [hc] at this; exact Bool.noConfusion this
      · rfl
    have h4 : mag (lim xs k) ≤ 9218868437227405312 := of_decide_eq_true h3
    unfold maxU
    rw [if_pos ⟨h3, by omega⟩]
    omega
theorem max_next {xs : List Nat} {k : Nat} (h : anyN xs (k + 1) = false) : maxU xs (k + 1) = max (maxU xs k) (mag (lim xs k)) ∧ isNum (lim xs k) = true := by
  have h1 : (anyN xs k || !isNum (lim xs k)) = false := h
  rw [Bool.or_eq_false_iff] at h1
  have h2 := max_some k h1.1
  have h3 : isNum (lim xs k) = true := by
    have := h1.2
    cases hc : isNum (lim xs k)
    · rw [hc] at this; exact Bool.noConfusion this
    · rfl
  refine ⟨?_, h3⟩
  rw [maxU, if_pos ⟨h3, by omega⟩]
theorem max_none {xs : List Nat} (k : Nat) (h : anyN xs k = true) : maxU xs k = 9221120237041090560 := by
  induction k with
  | zero => exact Bool.noConfusion h
  | succ k ih =>
    have h1 : (anyN xs k || !isNum (lim xs k)) = true := h
    rw [maxU, if_neg]
    rintro ⟨h2, h3⟩
    rw [h2] at h1
    exact h3 (ih (by simpa using h1))
theorem cls_not {a : Nat} (h : isNum a = false) : cls a = 3 := by
  refine Classical.byContradiction fun hc => ?_
  rw [(isNum_cls a).2 hc] at h
  exact Bool.noConfusion h
theorem arg_one (W : World) {x : Nat} : Arg (W.alloc (.cells #[.int .u64 (x : Int)] 22)) (.slice (some ⟨W.heap.size, 0, none⟩) 1 1) [x] :=
  ⟨W.heap.size, by simp, (Row.new W .u64 22 [x]).rd 1 (by simp)⟩
theorem arg_two (W : World) {x y : Nat} : Arg (W.alloc (.cells #[.int .u64 (x : Int), .int .u64 (y : Int)] 22)) (.slice (some ⟨W.heap.size, 0, none⟩) 2 2) [x, y] :=
  ⟨W.heap.size, by simp, (Row.new W .u64 22 [x, y]).rd 2 (by simp)⟩
set_option maxRecDepth 100000 in
set_option maxHeartbeats 4000000 in
theorem fcmp_any {v : Value} {xs : List Nat} {w : World} (hA : Arg w v xs) (hl : Low 18446744073709551616 xs) (hn : xs.length ≤ 17592186044416) :
    Calls Try.prog 59 #[v] w fun e W' => e = .returned (.bool (anyN xs xs.length)) ∧ w = W' := by
  have hll := fun k => lim_lt hl (by decide : 0 < 18446744073709551616) k
  have hstep : ∀ k, anyN xs (k + 1) = (anyN xs k || !isNum (lim xs k)) := fun _ => rfl
  have hup : ∀ k n, anyN xs k = true → k ≤ n → anyN xs n = true := fun k n h hk => by
    have := anyN_up h (n - k)
    rwa [show k + (n - k) = n by omega] at this
  obtain ⟨S, hS, hR⟩ := hA
  obtain ⟨a, cap, rfl, hcap, hsa⟩ := hR.slice
  have hca : ∀ k, k < xs.length → ∀ off, a = some ⟨S, off, none⟩ → w.cell? ⟨S, off + k, none⟩ = some (.int .u64 (lim xs k : Int)) := by
    intro k hk off ha
    subst ha; exact hR.cell hk
  have HA := Lib.hid hca
  have HSA := Lib.hid hsa
  have HLL := Lib.hid hll
  have HST := Lib.hid hstep
  have HUP := Lib.hid hup
  have H0 : Hid (anyN xs 0 = false) := Lib.hid rfl
  clear hca hsa hll hstep hup hR hcap hl
  generalize anyN xs = an at *
  generalize hm : xs.length = m at *
  clear hm
  go_enter Try.func59, Try.ntmps59
  go_wp2
  go_loopw [7] (fun i wr => ∃ k : Nat, k ≤ m ∧ i = .int .i64 k ∧ Hid (an k = false) ∧ w = wr) (fun i _ => m - (intOf i).toNat)
  case atStart => exact ⟨0, Nat.zero_le _, rfl, H0, rfl⟩
  case round =>
    obtain ⟨k, hk, rfl, hf, rfl⟩ := hrel
    by_cases hlt : k < m
    · obtain ⟨oa, rfl⟩ := HSA.out (by omega)
      have ka := HA.out k hlt oa rfl
      have h2 : (lim xs k : Int) ≤ 18446744073709551615 := by have := HLL.out k; omega
      have hcl := pclass1 (w := w) h2
      have hst := HST.out k
      cases hq : isNum (lim xs k)
      · have hfin : Hid (an m = true) := Lib.hid (HUP.out (k + 1) m (by rw [hst, hq]; cases an k <;> rfl) (by omega))
        rw [cls_not hq] at hcl
        clear hst hq
        generalize lim xs k = q at *
        go_wp2_with fail
        refine hcl.mono ?_
        rintro e w2 ⟨rfl, rfl⟩
        clear hcl
        go_wp2
        go_ret
        exact ⟨by rw [hfin.out]; rfl, rfl⟩
      · have hnext : Hid (an (k + 1) = false) := Lib.hid (by rw [hst, hq, hf.out]; rfl)
        have hc := (isNum_cls _).1 hq
        clear hst hq
        generalize lim xs k = q at *
        generalize cls q = c at *
        have d3 : ((c : Int) == 3) = false := beq_eq_false_iff_ne.2 (by omega)
        clear hc
        go_wp2_with fail
        refine hcl.mono ?_
        rintro e w2 ⟨rfl, rfl⟩
        clear hcl
        go_wp2
        go_roundw
        case rel => exact ⟨k + 1, by omega, by simp, hnext, trivial⟩
        case measure => simp [intOf]; omega
    · obtain rfl : k = m := by omega
      clear hlt
      go_wp2
      go_ret
      exact ⟨by rw [hf.out]; rfl, rfl⟩
theorem any_one (a : Nat) : anyN [a] 1 = !isNum a := rfl
theorem any_two (a b : Nat) : anyN [a, b] 2 = !(isNum a && isNum b) := by
  show ((false || !isNum a) || !isNum b) = _
  cases isNum a <;> cases isNum b <;> rfl
theorem low_one {a : Nat} (ha : (a : Int) ≤ 18446744073709551615) : Low 18446744073709551616 [a] := by
  intro y hy
  simp at hy
  omega
theorem low_two {a b : Nat} (ha : (a : Int) ≤ 18446744073709551615) (hb : (b : Int) ≤ 18446744073709551615) : Low 18446744073709551616 [a, b] := by
  intro y hy
  simp at hy
  omega
theorem any_word {a : Nat} {w : World} (ha : (a : Int) ≤ 18446744073709551615) :
    Calls Try.prog 59 #[.slice (some ⟨w.heap.size, 0, none⟩) 1 1] (w.alloc (.cells #[.int .u64 (a : Int)] 22)) fun e W' => e = .returned (.bool (!isNum a)) ∧ w.alloc (.cells #[.int .u64 (a : Int)] 22) = W' :=
  fcmp_any (arg_one w) (low_one ha) (by simp)
theorem below_new (w : World) (o : Obj) : Below w.heap.size w (w.alloc o) := (Below.refl w.heap.size w).alloc (Nat.le_refl _) o
theorem fcmp_abs {a : Nat} {w : World} (ha : (a : Int) ≤ 18446744073709551615) :
    Calls Try.prog 30 #[.int .u64 (a : Int)] w fun e W' => e = .returned (.int .u64 (absB a : Int)) ∧ Below w.heap.size w W' := by
  have h := any_word (w := w) ha
  have hn := not_top (a := a) (by omega)
  have hb := below_new w (.cells #[.int .u64 (a : Int)] 22)
  unfold absB mag
  generalize isNum a = t at *
  cases t
  · rw [if_neg Bool.false_ne_true]
    clear hn
    go_enter Try.func30, Try.ntmps30
    go_wp2_with fail
    refine h.mono ?_
    rintro e w1 ⟨rfl, rfl⟩
    clear h
    go_wp2
    go_ret
    exact ⟨rfl, hb⟩
  · rw [if_pos rfl]
    generalize a % 9223372036854775808 = z at *
    go_enter Try.func30, Try.ntmps30
    go_wp2_with fail
    refine h.mono ?_
    rintro e w1 ⟨rfl, rfl⟩
    clear h
    go_wp2
    go_ret
    exact ⟨rfl, hb⟩
theorem neg_flip {a : Nat} (ha : a < 18446744073709551616) : bits .xor .u64 (a : Int) 9223372036854775808 = ((if neg6 a then mag a else mag a + 9223372036854775808 : Nat) : Int) := by
  have h : bits .xor .u64 (a : Int) 9223372036854775808 = (flip a : Int) := bits_xor_u64_nat a 9223372036854775808 ha (by omega)
  rw [h, flip_eq ha]
  rcases key_of ha with ⟨k1, k2, _⟩ | ⟨k1, k2, _⟩
  · rw [k1, if_pos rfl, if_pos rfl]; omega
  · rw [k1, if_neg Bool.false_ne_true, if_neg Bool.false_ne_true]; omega
theorem fcmp_neg {a : Nat} {w : World} (ha : (a : Int) ≤ 18446744073709551615) :
    Calls Try.prog 31 #[.int .u64 (a : Int)] w fun e W' => e = .returned (.int .u64 (negB a : Int)) ∧ Below w.heap.size w W' := by
  have h := any_word (w := w) ha
  have hn := neg_flip (a := a) (by omega)
  have hb := below_new w (.cells #[.int .u64 (a : Int)] 22)
  unfold negB
  generalize (if neg6 a then mag a else mag a + 9223372036854775808) = z at *
  generalize isNum a = t at *
  cases t
  · rw [if_neg Bool.false_ne_true]
    clear hn
    go_enter Try.func31, Try.ntmps31
    go_wp2_with fail
    refine h.mono ?_
    rintro e w1 ⟨rfl, rfl⟩
    clear h
    go_wp2
    go_ret
    exact ⟨rfl, hb⟩
  · rw [if_pos rfl]
    go_enter Try.func31, Try.ntmps31
    go_wp2_with fail
    refine h.mono ?_
    rintro e w1 ⟨rfl, rfl⟩
    clear h
    go_wp2
    go_ret
    exact ⟨rfl, hb⟩
theorem fcmp_rank {a : Nat} {w : World} (ha : (a : Int) ≤ 18446744073709551615) :
    Calls Try.prog 61 #[.int .u64 (a : Int)] w fun e W' => e = .returned (.int .i64 (key a)) ∧ w = W' := by
  have hn := not_top (a := a) (by omega)
  have ht := and_top (a := a) (by omega)
  unfold key mag
  have hz : ((a % 9223372036854775808 : Nat) : Int) ≤ 9223372036854775807 := by omega
  generalize a % 9223372036854775808 = z at *
  generalize neg6 a = t at *
  cases t
  · rw [if_neg Bool.false_ne_true]
    go_enter Try.func61, Try.ntmps61
    go_wp2
    go_ret
    exact ⟨ret_int (by go_num), rfl⟩
  · rw [if_pos rfl]
    go_enter Try.func61, Try.ntmps61
    go_wp2
    go_ret
    exact ⟨ret_int (by go_num), rfl⟩
set_option maxHeartbeats 400000 in
theorem compareI64 (a b : Int) (w : World) :
    Calls Try.prog 60 #[.int .i64 a, .int .i64 b] w fun e w' => e = .returned (.int .i64 (cmpZ a b)) ∧ w = w' := by
  rcases Int.lt_trichotomy a b with h | h | h
  · go_enter Try.func60, Try.ntmps60
    go_wp2
    all_goals go_ret
    all_goals exact ⟨ret_int (by simp [cmpZ, h]), rfl⟩
  · subst h
    go_enter Try.func60, Try.ntmps60
    go_wp2
    all_goals go_ret
    all_goals exact ⟨ret_int (by simp [cmpZ]), rfl⟩
  · have h' : ¬ a < b := by omega
    go_enter Try.func60, Try.ntmps60
    go_wp2
    all_goals go_ret
    all_goals exact ⟨ret_int (by simp [cmpZ, h, h']), rfl⟩
set_option maxRecDepth 100000 in
theorem fcmp_cmp {a b : Nat} {w : World} (ha : (a : Int) ≤ 18446744073709551615) (hb : (b : Int) ≤ 18446744073709551615) :
    Calls Try.prog 23 #[.int .u64 (a : Int), .int .u64 (b : Int)] w fun e W' => e = .returned (.tuple #[.int .i64 (kcmp a b).1, .bool (kcmp a b).2]) ∧ Below w.heap.size w W' := by
  have h : Calls Try.prog 59 #[.slice (some ⟨w.heap.size, 0, none⟩) 2 2] (w.alloc (.cells #[.int .u64 (a : Int), .int .u64 (b : Int)] 22)) fun e W' => e = .returned (.bool (anyN [a, b] 2)) ∧ w.alloc (.cells #[.int .u64 (a : Int), .int .u64 (b : Int)] 22) = W' :=
    fcmp_any (arg_two w) (low_two ha hb) (by simp)
  rw [any_two] at h
  have hB := below_new w (.cells #[.int .u64 (a : Int), .int .u64 (b : Int)] 22)
  have hra := fun u => fcmp_rank (w := u) ha
  have hrb := fun u => fcmp_rank (w := u) hb
  have hcm := fun u => compareI64 (key a) (key b) u
  have hk : kcmp a b = if isNum a && isNum b then (cmpZ (key a) (key b), true) else (0, false) := rfl
  rw [hk]
  clear hk
  generalize cmpZ (key a) (key b) = c at *
  generalize key a = ka at *
  generalize key b = kb at *
  generalize (isNum a && isNum b) = t at *
  cases t
  · rw [if_neg Bool.false_ne_true]
    clear hra hrb hcm
    go_enter Try.func23, Try.ntmps23
    go_wp2_with fail
    refine h.mono ?_
    rintro e w1 ⟨rfl, rfl⟩
    clear h
    go_wp2
    go_ret2
    exact ⟨rfl, hB⟩
  · rw [if_pos rfl]
    go_enter Try.func23, Try.ntmps23
    go_wp2_with fail
    refine h.mono ?_
    rintro e w1 ⟨rfl, rfl⟩
    clear h
    go_wp2_with fail
    refine (hra _).mono ?_
    rintro e w1 ⟨rfl, rfl⟩
    go_wp2_with fail
    refine (hrb _).mono ?_
    rintro e w1 ⟨rfl, rfl⟩
    go_wp2_with fail
    refine (hcm _).mono ?_
    rintro e w1 ⟨rfl, rfl⟩
    go_wp2
    go_ret2
    exact ⟨rfl, hB⟩
theorem kless_cmp (a b : Nat) : decide ((kcmp a b).1 < 0) = kless a b := by
  unfold kcmp kless
  cases (isNum a && isNum b)
  · rfl
  · rw [if_pos rfl, Bool.true_and]
    by_cases h : key a < key b
    · rw [if_pos h, decide_eq_true h]; rfl
    · rw [if_neg h, decide_eq_false h]
      split <;> rfl
theorem fcmp_less {a b : Nat} {w : World} (ha : (a : Int) ≤ 18446744073709551615) (hb : (b : Int) ≤ 18446744073709551615) :
    Calls Try.prog 24 #[.int .u64 (a : Int), .int .u64 (b : Int)] w fun e W' => e = .returned (.bool (kless a b)) ∧ Below w.heap.size w W' := by
  have h := fcmp_cmp (w := w) ha hb
  have hk := kless_cmp a b
  generalize kless a b = l at *
  generalize kcmp a b = p at *
  obtain ⟨o, t⟩ := p
  dsimp only at h hk
  go_enter Try.func24, Try.ntmps24
  go_wp2_with fail
  refine h.mono ?_
  rintro e w1 ⟨rfl, b1⟩
  go_wp2
  go_ret
  exact ⟨rfl, b1⟩
set_option maxRecDepth 100000 in
set_option maxHeartbeats 1000000 in
theorem fcmp_next {a : Nat} {w : World} (ha : (a : Int) ≤ 18446744073709551615) :
    Calls Try.prog 27 #[.int .u64 (a : Int)] w fun e W' => e = .returned (.int .u64 (nxtB a : Int)) ∧ Below w.heap.size w W' := by
  have h := any_word (w := w) ha
  have ht := and_top (a := a) (by omega)
  have hb := below_new w (.cells #[.int .u64 (a : Int)] 22)
  have hI : ∀ u, Calls Try.prog 53 #[.bool false] u fun e W' => e = .returned (.int .u64 9218868437227405312) ∧ u = W' := fun u => pinf1 false u
  have hZ0 : ∀ u, Calls Try.prog 58 #[.bool false] u fun e W' => e = .returned (.int .u64 0) ∧ u = W' := fun u => pzero1 false u
  have hZ1 : ∀ u, Calls Try.prog 58 #[.bool true] u fun e W' => e = .returned (.int .u64 9223372036854775808) ∧ u = W' := fun u => pzero1 true u
  have hk := key_of (a := a) (by omega)
  have hmn : isNum a = true → mag a ≤ 9218868437227405312 := fun h => of_decide_eq_true h
  unfold nxtB
  generalize isNum a = t at *
  cases t
  · rw [if_neg Bool.false_ne_true]
    clear ht hI hZ0 hZ1 hk hmn
    go_enter Try.func27, Try.ntmps27
    go_wp2_with fail
    refine h.mono ?_
    rintro e w1 ⟨rfl, rfl⟩
    clear h
    go_wp2
    go_ret
    exact ⟨rfl, hb⟩
  · rw [if_pos rfl]
    replace hmn := hmn rfl
    by_cases c1 : a = 9218868437227405312
    · subst c1
      rw [if_pos rfl]
      clear ht hZ0 hZ1 hk hmn
      go_enter Try.func27, Try.ntmps27
      go_wp2_with fail
      refine h.mono ?_
      rintro e w1 ⟨rfl, rfl⟩
      clear h
      go_wp2_with fail
      refine (hI _).mono ?_
      rintro e w1 ⟨rfl, rfl⟩
      go_wp2
      go_ret
      exact ⟨rfl, hb⟩
    · rw [if_neg c1]
      have d1 : ((a : Int) == 9218868437227405312) = false := beq_eq_false_iff_ne.2 (by omega)
      by_cases c2 : a = 9223372036854775808
      · subst c2
        rw [if_pos (by decide)]
        clear ht hk hmn c1 d1
        go_enter Try.func27, Try.ntmps27
        go_wp2_with fail
        refine h.mono ?_
        rintro e w1 ⟨rfl, rfl⟩
        clear h
        go_wp2_with fail
        refine (hI _).mono ?_
        rintro e w1 ⟨rfl, rfl⟩
        go_wp2_with fail
        refine (hZ1 _).mono ?_
        rintro e w1 ⟨rfl, rfl⟩
        go_wp2_with fail
        refine (hZ0 _).mono ?_
        rintro e w1 ⟨rfl, rfl⟩
        go_wp2
        go_ret
        exact ⟨rfl, hb⟩
      · have d2 : ((a : Int) == 9223372036854775808) = false := beq_eq_false_iff_ne.2 (by omega)
        rcases hk with ⟨k1, k2, _⟩ | ⟨k1, k2, _⟩
        · rw [k1] at ht ⊢
          rw [if_neg (by omega), if_pos rfl]
          have e1 : (a : Int) - 1 = ((a - 1 : Nat) : Int) := by omega
          have e2 : ((a - 1 : Nat) : Int) ≤ 18446744073709551615 := by omega
          clear c1 c2 k1 k2 hmn
          generalize a - 1 = r at *
          go_enter Try.func27, Try.ntmps27
          go_wp2_with fail
          refine h.mono ?_
          rintro e w1 ⟨rfl, rfl⟩
          clear h
          go_wp2_with fail
          refine (hI _).mono ?_
          rintro e w1 ⟨rfl, rfl⟩
          go_wp2_with fail
          refine (hZ1 _).mono ?_
          rintro e w1 ⟨rfl, rfl⟩
          go_wp2
          go_ret
          exact ⟨ret_int (by first | rfl | omega | go_num), hb⟩
        · have hr : (if mag a = 0 then 1 else if neg6 a then a - 1 else a + 1) = a + 1 := by
            rw [k1]
            split <;> simp <;> omega
          rw [hr]
          rw [k1] at ht
          have e1 : (a : Int) + 1 = ((a + 1 : Nat) : Int) := by omega
          have e2 : ((a + 1 : Nat) : Int) ≤ 18446744073709551615 := by omega
          clear c1 c2 k1 k2 hmn hr
          generalize a + 1 = r at *
          go_enter Try.func27, Try.ntmps27
          go_wp2_with fail
          refine h.mono ?_
          rintro e w1 ⟨rfl, rfl⟩
          clear h
          go_wp2_with fail
          refine (hI _).mono ?_
          rintro e w1 ⟨rfl, rfl⟩
          go_wp2_with fail
          refine (hZ1 _).mono ?_
          rintro e w1 ⟨rfl, rfl⟩
          go_wp2
          go_ret
          exact ⟨ret_int (by first | rfl | omega | go_num), hb⟩
theorem prv_nxt {a : Nat} (ha : a < 18446744073709551616) : negB (nxtB (negB a)) = prvB a := by
  have hN : isNum 9221120237041090560 = false := by decide
  unfold prvB
  cases hn : isNum a
  · have e1 : negB a = 9221120237041090560 := by unfold negB; rw [hn]; rfl
    have e2 : nxtB 9221120237041090560 = 9221120237041090560 := by unfold nxtB; rw [hN]; rfl
    have e3 : negB 9221120237041090560 = 9221120237041090560 := by unfold negB; rw [hN]; rfl
    rw [e1, e2, e3]; rfl
  · have hm : mag a ≤ 9218868437227405312 := of_decide_eq_true hn
    rw [if_pos rfl]
    rcases key_of ha with ⟨k1, k2, _⟩ | ⟨k1, k2, _⟩
    · have e1 : negB a = mag a := by unfold negB; rw [hn, k1]; rfl
      have f1 : mag (mag a) = mag a := by unfold mag; omega
      have f2 : isNum (mag a) = true := decide_eq_true (by rw [f1]; exact hm)
      have f3 : neg6 (mag a) = false := decide_eq_false (by omega)
      rw [e1]
      by_cases c1 : a = 18442240474082181120
      · rw [if_pos c1]
        have e2 : mag a = 9218868437227405312 := by omega
        rw [e2, c1]
        decide
      · rw [if_neg c1]
        by_cases c2 : mag a = 0
        · rw [if_pos c2, c2]
          decide
        · rw [if_neg c2, k1, if_pos rfl]
          have e2 : nxtB (mag a) = mag a + 1 := by
            unfold nxtB
            rw [f2, if_pos rfl, if_neg (by omega), f1, if_neg c2, f3, if_neg Bool.false_ne_true]
          have g1 : mag (mag a + 1) = mag a + 1 := by unfold mag at *; omega
          have g2 : isNum (mag a + 1) = true := decide_eq_true (by rw [g1]; omega)
          have g3 : neg6 (mag a + 1) = false := decide_eq_false (by omega)
          rw [e2]
          unfold negB
          rw [g2, if_pos rfl, g3, if_neg Bool.false_ne_true, g1]
          omega
    · have e1 : negB a = mag a + 9223372036854775808 := by unfold negB; rw [hn, k1]; rfl
      have f1 : mag (mag a + 9223372036854775808) = mag a := by unfold mag; omega
      have f2 : isNum (mag a + 9223372036854775808) = true := decide_eq_true (by rw [f1]; exact hm)
      have f3 : neg6 (mag a + 9223372036854775808) = true := decide_eq_true (by omega)
      rw [e1, if_neg (by omega)]
      by_cases c2 : mag a = 0
      · rw [if_pos c2, c2]
        decide
      · rw [if_neg c2, k1, if_neg Bool.false_ne_true]
        have e2 : nxtB (mag a + 9223372036854775808) = mag a + 9223372036854775808 - 1 := by
          unfold nxtB
          rw [f2, if_pos rfl, if_neg (by omega), f1, if_neg c2, f3, if_pos rfl]
        have g1 : mag (mag a + 9223372036854775808 - 1) = mag a - 1 := by unfold mag at *; omega
        have g2 : isNum (mag a + 9223372036854775808 - 1) = true := decide_eq_true (by rw [g1]; omega)
        have g3 : neg6 (mag a + 9223372036854775808 - 1) = true := decide_eq_true (by omega)
        rw [e2]
        unfold negB
        rw [g2, if_pos rfl, g3, if_pos rfl, g1]
        omega
theorem negB_lt {a : Nat} : negB a ≤ 18446744073709551615 := by
  have h : mag a ≤ 9223372036854775807 := by unfold mag; omega
  unfold negB
  split
  · split <;> omega
  · omega
theorem nxtB_lt {a : Nat} (ha : a ≤ 18446744073709551615) : nxtB a ≤ 18446744073709551615 := by
  unfold nxtB
  cases hn : isNum a
  · rw [if_neg Bool.false_ne_true]; omega
  · have hm : mag a ≤ 9218868437227405312 := of_decide_eq_true hn
    unfold mag at hm
    rw [if_pos rfl]
    split
    · exact ha
    · split
      · omega
      · split <;> omega
theorem fcmp_prev {a : Nat} {w : World} (ha : (a : Int) ≤ 18446744073709551615) :
    Calls Try.prog 28 #[.int .u64 (a : Int)] w fun e W' => e = .returned (.int .u64 (prvB a : Int)) ∧ Below w.heap.size w W' := by
  have h1 := fun u => fcmp_neg (w := u) ha
  have l1 : negB a ≤ 18446744073709551615 := negB_lt
  have h2 := fun u => fcmp_next (a := negB a) (w := u) (by omega)
  have l2 := nxtB_lt l1
  have h3 := fun u => fcmp_neg (a := nxtB (negB a)) (w := u) (by omega)
  rw [prv_nxt (by omega)] at h3
  generalize prvB a = r at *
  generalize nxtB (negB a) = y at *
  generalize negB a = x at *
  go_enter Try.func28, Try.ntmps28
  go_wp2_with fail
  refine (h1 _).mono ?_
  rintro e w1 ⟨rfl, b1⟩
  go_wp2_with fail
  refine (h2 _).mono ?_
  rintro e w2 ⟨rfl, b2⟩
  go_wp2_with fail
  refine (h3 _).mono ?_
  rintro e w3 ⟨rfl, b3⟩
  go_wp2
  go_ret
  exact ⟨rfl, below_both (below_both b1 b2) b3⟩
set_option maxRecDepth 100000 in
set_option maxHeartbeats 4000000 in
theorem fcmp_max {v : Value} {xs : List Nat} {w : World} (hA : Arg w v xs) (hl : Low 18446744073709551616 xs) (hn : xs.length ≤ 17592186044416) :
    Calls Try.prog 32 #[v] w fun e W' => e = .returned (.int .u64 (maxU xs xs.length : Int)) ∧ Below w.heap.size w W' := by
  have hany := fcmp_any hA hl hn
  have hZ0 : ∀ u, Calls Try.prog 58 #[.bool false] u fun e W' => e = .returned (.int .u64 0) ∧ u = W' := fun u => pzero1 false u
  cases hc : anyN xs xs.length
  · rw [hc] at hany
    have hll := fun k => lim_lt hl (by decide : 0 < 18446744073709551616) k
    have hnx : ∀ k, k < xs.length → maxU xs (k + 1) = max (maxU xs k) (mag (lim xs k)) ∧ isNum (lim xs k) = true := fun k hk => max_next (anyN_false hc hk)
    have hle : ∀ k, k ≤ xs.length → maxU xs k ≤ 9218868437227405312 := fun k hk => max_some k (anyN_false hc hk)
    obtain ⟨S, hS, hR⟩ := hA
    obtain ⟨a, cap, rfl, hcap, hsa⟩ := hR.slice
    have hca : ∀ k, k < xs.length → ∀ off, a = some ⟨S, off, none⟩ → w.cell? ⟨S, off + k, none⟩ = some (.int .u64 (lim xs k : Int)) := by
      intro k hk off ha
      subst ha; exact hR.cell hk
    have HA := Lib.hid hca
    have HSA := Lib.hid hsa
    have HLL := Lib.hid hll
    have HNX := Lib.hid hnx
    have HLE := Lib.hid hle
    have H0 : Hid ((0 : Int) = (maxU xs 0 : Int)) := Lib.hid rfl
    clear hca hsa hll hnx hle hR hcap hl hc
    generalize maxU xs = mx at *
    generalize hm : xs.length = m at *
    clear hm
    go_enter Try.func32, Try.ntmps32
    go_wp2_with fail
    refine hany.mono ?_
    rintro e w1 ⟨rfl, rfl⟩
    clear hany
    go_wp2_with fail
    refine (hZ0 _).mono ?_
    rintro e w1 ⟨rfl, rfl⟩
    go_wp2
    go_loopw [3, 11] (fun f i wr => ∃ k : Nat, ∃ z : Int, k ≤ m ∧ i = .int .i64 k ∧ Hid (z = (mx k : Int)) ∧ f = .int .u64 z ∧ Below w.heap.size w wr) (fun _ i _ => m - (intOf i).toNat)
    case atStart => exact ⟨0, 0, Nat.zero_le _, rfl, H0, rfl, Below.refl _ _⟩
    case round =>
      obtain ⟨k, z, hk, rfl, hf, rfl, hB⟩ := hrel
      by_cases hlt : k < m
      · obtain ⟨oa, rfl⟩ := HSA.out (by omega)
        have ka := (hB.cell (p := ⟨S, oa + k, none⟩) hS).trans (HA.out k hlt oa rfl)
        have h2 : (lim xs k : Int) ≤ 18446744073709551615 := by have := HLL.out k; omega
        obtain ⟨n1, n2⟩ := HNX.out k hlt
        have habs := fun u => fcmp_abs (w := u) h2
        have hab : absB (lim xs k) = mag (lim xs k) := by unfold absB; rw [n2]; rfl
        rw [hab] at habs
        have l1 := HLE.out k (by omega)
        have l2 := HLE.out (k + 1) (by omega)
        obtain ⟨y, hy⟩ : ∃ y : Int, (mag (lim xs k) : Int) = y := ⟨_, rfl⟩
        rw [hy] at habs
        have hz0 : 0 ≤ z := by have := hf.out; omega
        have hz1 : z ≤ 9218868437227405312 := by have := hf.out; omega
        have hy0 : 0 ≤ y := by omega
        have hy1 : y ≤ 9218868437227405312 := by omega
        have hmx : Hid (max z y = (mx (k + 1) : Int)) := Lib.hid (by have := hf.out; omega)
        clear n1 n2 hab l1 l2 hy h2
        generalize lim xs k = q at *
        go_wp2_with fail
        refine (habs _).mono ?_
        rintro e w2 ⟨rfl, b2⟩
        replace hB := below_both hB b2
        clear habs b2
        go_wp2
        go_roundw
        case rel => exact ⟨k + 1, max z y, by omega, by simp, Lib.hid hmx.out, rfl, hB⟩
        case measure => simp [intOf]; omega
      · obtain rfl : k = m := by omega
        clear hlt
        go_wp2
        go_ret
        exact ⟨ret_int hf.out, hB⟩
  · rw [hc] at hany
    rw [max_none _ hc]
    obtain ⟨a, cap, rfl⟩ := hA.slice
    clear hc hl hn hA hZ0
    generalize xs.length = m at *
    go_enter Try.func32, Try.ntmps32
    go_wp2_with fail
    refine hany.mono ?_
    rintro e w1 ⟨rfl, rfl⟩
    clear hany
    go_wp2
    go_ret
    exact ⟨rfl, Below.refl _ _⟩
end Go.Proofs.Ytgobclmihppopab
