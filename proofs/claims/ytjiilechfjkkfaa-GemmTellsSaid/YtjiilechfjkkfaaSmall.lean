/- The small functions: cmp.Compare at two types, nat.limb, math/bits.Add64 and Sub64, and what nat.trim leaves. -/
import Derived.Test.YtjiilechfjkkfaaIter
import Derived.Test.YtjiilechfjkkfaaNum
import Derived.Shelf.Spec.BitsCarry
import Derived.Sort.CutIn
import Derived.BigQuiet
import Derived.Deep.QuietTactic
namespace Go.Proofs.Ytjiilechfjkkfaa
open Go.RowKit Go.Shelf

def cmpZ (a b : Int) : Int := if a < b then -1 else if b < a then 1 else 0
theorem cmpZ_nat (a b : Nat) : cmpZ a b = cmpN a b := by
  unfold cmpZ cmpN
  by_cases h1 : a < b
  · simp [h1]
  · by_cases h2 : b < a
    · have : ¬ ((a : Int) < b) := by omega
      simp [h1, h2, this]
    · have : ¬ ((a : Int) < b) := by omega
      have : ¬ ((b : Int) < a) := by omega
      simp [*]
theorem ret_int {k : IntKind} {a b : Int} (h : a = b) : Ending.returned (.int k a) = .returned (.int k b) := by rw [h]



/-- a statement that does not panic, whatever would follow a panic -/
theorem wpIn_calm {F : Fence} {n : Nat} {P : Program} {s : Code} {K : Act → World → Prop} {Q : Exit → Act → World → Prop} {a : Act} {w : World}
    (h : s.wpIn F n P (Exit.then K fun _ _ _ => False) a w) : s.wpIn F n P (Exit.then K Q) a w := by
  refine wpIn_mono h ?_
  intro e a' w' hq
  cases e with
  | normal => exact hq
  | exit id => exact hq.elim
  | goto l => exact hq.elim
  | ret => exact hq.elim
  | panic ch => exact hq.elim
  | outgrown => exact hq.elim
theorem _root_.Go.Boxed.below {W W' : World} {B n : Nat} {t : TypeId} {v : Value} (h : Boxed W B t v) (hb : Below n W W') (hn : B < n) : Boxed W' B t v := (hb.block B hn).trans h
theorem _root_.Go.Boxed.behind {W W' : World} {B : Nat} {t : TypeId} {v : Value} (h : Boxed W B t v) (hb : Below W.heap.size W W') : Boxed W' B t v := h.below hb h.lt
theorem _root_.Go.Boxed.drew {W : World} {B : Nat} {t : TypeId} {v : Value} (h : Boxed W B t v) : Boxed W.drew B t v := h
theorem follows : Try.prog.follows .mixedOrders = true := by kernel_rfl

theorem sub64_run (x y b : Nat) (hb : b ≤ 1) (w : World) :
    (callFunc 113 #[.int .u64 x, .int .u64 y, .int .u64 b]).run Try.prog w =
      .ok (.value (.tuple #[.int .u64 (sub64 x y b : Int), .int .u64 (borrow64 x y b : Int)])) w := by
  rw [run_callFunc_extern Try.func113 (by kernel_rfl) (by kernel_rfl) (by kernel_rfl) (e := sub64Entry) (by kernel_rfl), run_sub64 x y b hb]
  rfl
end Go.Proofs.Ytjiilechfjkkfaa
