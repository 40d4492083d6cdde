/- The small functions: cmp.Compare at two types, nat.limb, math/bits.Add64 and Sub64, and what nat.trim leaves. -/
import Derived.Test.YtdcebkhdnhdejaaIter
import Derived.Test.YtdcebkhdnhdejaaNum
import Derived.Shelf.Spec.BitsCarry
import Derived.Sort.CutIn
import Derived.BigQuiet
import Derived.Deep.QuietTactic
namespace Go.Proofs.Ytdcebkhdnhdejaa
open Go.RowKit Go.Shelf

def cmpZ (a b : Int) : Int := if a < b then -1 else if b < a then 1 else 0
theorem cmpZ_nat (a b : Nat) : cmpZ a b = cmpN a b := by
  unfold cmpZ cmpN
  by_cases h1 : a < b
  · simp [h1]
  · by_cases h2 : b < a
    · have : ¬ ((a : Int) < b) := by omega
      simp [h1, h2, this]
    · have : ¬ ((a : Int) < b) := by omega
      have : ¬ ((b : Int) < a) := by omega
      simp [*]
theorem ret_int {k : IntKind} {a b : Int} (h : a = b) : Ending.returned (.int k a) = .returned (.int k b) := by rw [h]

set_option maxHeartbeats 400000 in
theorem compareInt (a b : Int) (w : World) :
    Calls Try.prog 168 #[.int .i64 a, .int .i64 b] w fun e w' => e = .returned (.int .i64 (cmpZ a b)) ∧ w = w' := by
  rcases Int.lt_trichotomy a b with h | h | h
  · go_enter Try.func168, Try.ntmps168
    go_wp2
    all_goals go_ret
    all_goals exact ⟨ret_int (by simp [cmpZ, h]), rfl⟩
  · subst h
    go_enter Try.func168, Try.ntmps168
    go_wp2
    all_goals go_ret
    all_goals exact ⟨ret_int (by simp [cmpZ]), rfl⟩
  · have h' : ¬ a < b := by omega
    go_enter Try.func168, Try.ntmps168
    go_wp2
    all_goals go_ret
    all_goals exact ⟨ret_int (by simp [cmpZ, h, h']), rfl⟩
set_option maxHeartbeats 400000 in
theorem compareU64 (a b : Int) (w : World) :
    Calls Try.prog 169 #[.int .u64 a, .int .u64 b] w fun e w' => e = .returned (.int .i64 (cmpZ a b)) ∧ w = w' := by
  rcases Int.lt_trichotomy a b with h | h | h
  · go_enter Try.func169, Try.ntmps169
    go_wp2
    all_goals go_ret
    all_goals exact ⟨ret_int (by simp [cmpZ, h]), rfl⟩
  · subst h
    go_enter Try.func169, Try.ntmps169
    go_wp2
    all_goals go_ret
    all_goals exact ⟨ret_int (by simp [cmpZ]), rfl⟩
  · have h' : ¬ a < b := by omega
    go_enter Try.func169, Try.ntmps169
    go_wp2
    all_goals go_ret
    all_goals exact ⟨ret_int (by simp [cmpZ, h, h']), rfl⟩

/-- nat.limb: the word at a place, or 0 past the end -/
theorem limb_calls (v : Value) (xs : List Nat) (b i : Nat) (w : World) (hI : RdAt b w v xs) :
    Calls Try.prog 159 #[v, .int .i64 i] w fun e w' => e = .returned (.int .u64 (lim xs i : Int)) ∧ w = w' := by
  by_cases hi : i < xs.length
  · rcases hI with ⟨_, rfl⟩ | ⟨off, cap, rfl, hl, hc⟩
    · exact absurd hi (by simp)
    · have hc' := hc i hi
      clear hc
      go_enter Try.func159, Try.ntmps159
      go_wp2
      go_ret
      exact ⟨rfl, rfl⟩
  · have h0 : Hid (lim xs i = 0) := Lib.hid (lim_ge (by omega))
    obtain ⟨a, cap, rfl, hcap, _⟩ := hI.slice
    go_enter Try.func159, Try.ntmps159
    go_wp2
    go_ret
    exact ⟨ret_int (by rw [h0.out]; rfl), rfl⟩

/-- nat.trim, held against an earlier world -/
theorem trim_from {w0 w : World} {b : Nat} {v : Value} {xs : List Nat} (hI : RdAt b w0 v xs) (hb : b < w0.heap.size) (hreach : xs.length ≤ 9223372036854775806) (hB : Below w0.heap.size w0 w) :
    Calls Try.prog 157 #[v] w fun e W' => ∃ a cap, e = .returned (.slice a (cutz xs).length cap) ∧ RdAt b w0 (.slice a (cutz xs).length cap) (cutz xs) ∧ Below w.heap.size w W' ∧ Below w0.heap.size w0 W' :=
  (trim_calls b v xs hreach w (Nat.lt_of_lt_of_le hb hB.size) (hI.kept (hB.block b hb))).mono fun _ W' ⟨v', he, hr, hb'⟩ => by
    have hB' : Below w0.heap.size w0 W' := hB.trans (hb'.mono hB.size)
    obtain ⟨a, cap, rfl, _, _⟩ := hr.slice
    exact ⟨a, cap, he, hr.kept (hB'.block b hb).symm, hb', hB'⟩
/-- a statement that does not panic, whatever would follow a panic -/
theorem wpIn_calm {F : Fence} {n : Nat} {P : Program} {s : Code} {K : Act → World → Prop} {Q : Exit → Act → World → Prop} {a : Act} {w : World}
    (h : s.wpIn F n P (Exit.then K fun _ _ _ => False) a w) : s.wpIn F n P (Exit.then K Q) a w := by
  refine wpIn_mono h ?_
  intro e a' w' hq
  cases e with
  | normal => exact hq
  | exit id => exact hq.elim
  | goto l => exact hq.elim
  | ret => exact hq.elim
  | panic ch => exact hq.elim
  | outgrown => exact hq.elim
theorem _root_.Go.Boxed.below {W W' : World} {B n : Nat} {t : TypeId} {v : Value} (h : Boxed W B t v) (hb : Below n W W') (hn : B < n) : Boxed W' B t v := (hb.block B hn).trans h
theorem _root_.Go.Boxed.behind {W W' : World} {B : Nat} {t : TypeId} {v : Value} (h : Boxed W B t v) (hb : Below W.heap.size W W') : Boxed W' B t v := h.below hb h.lt
theorem _root_.Go.Boxed.drew {W : World} {B : Nat} {t : TypeId} {v : Value} (h : Boxed W B t v) : Boxed W.drew B t v := h
theorem follows : Try.prog.follows .mixedOrders = true := by kernel_rfl

theorem add64_run (x y c : Nat) (hc : c ≤ 1) (w : World) :
    (callFunc 166 #[.int .u64 x, .int .u64 y, .int .u64 c]).run Try.prog w =
      .ok (.value (.tuple #[.int .u64 (add64 x y c : Int), .int .u64 (carry64 x y c : Int)])) w := by
  rw [run_callFunc_extern Try.func166 (by kernel_rfl) (by kernel_rfl) (by kernel_rfl) (e := add64Entry) (by kernel_rfl), run_add64 x y c (by omega) (by omega) (by omega) (by omega)]
  simp only [Result.andThen, add64, carry64]
  congr 5 <;> omega
theorem sub64_run (x y b : Nat) (hb : b ≤ 1) (w : World) :
    (callFunc 140 #[.int .u64 x, .int .u64 y, .int .u64 b]).run Try.prog w =
      .ok (.value (.tuple #[.int .u64 (sub64 x y b : Int), .int .u64 (borrow64 x y b : Int)])) w := by
  rw [run_callFunc_extern Try.func140 (by kernel_rfl) (by kernel_rfl) (by kernel_rfl) (e := sub64Entry) (by kernel_rfl), run_sub64 x y b hb]
  rfl
end Go.Proofs.Ytdcebkhdnhdejaa
