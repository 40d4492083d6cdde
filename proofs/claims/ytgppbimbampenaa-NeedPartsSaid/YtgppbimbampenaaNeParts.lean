/- The law NeedParts, walked. -/
import Derived.Test.YtgppbimbampenaaNeTri
namespace Go.Proofs.Ytgppbimbampenaa
open Go.RowKit Go.Shelf
set_option maxRecDepth 100000 in
set_option maxHeartbeats 4000000 in
theorem needParts_calls {a b d : Nat} {w : World} (ha : a < 256) (hb : b < 256) (hd : d < 256) :
    Calls Try.prog 13 #[.int .u8 (a : Int), .int .u8 (b : Int), .int .u8 (d : Int)] w fun e W' => e = .returned (.bool true) ∧ Below w.heap.size w W' := by
  have hal := l27_alive (w := w)
  obtain ⟨q, hq⟩ : ∃ q : Nat, q = 1 + b % 40 := ⟨_, rfl⟩
  obtain ⟨c, hc⟩ : ∃ c : Nat, c = 1 + d % 20 := ⟨_, rfl⟩
  obtain ⟨p0, hp0⟩ : ∃ p : Nat, p = 1 + a % 40 := ⟨_, rfl⟩
  obtain ⟨p, hp⟩ : ∃ p : Nat, p = max p0 q := ⟨_, rfl⟩
  have hmx : ∀ (w : World) (ts : Array TypeId) (t : TypeId), (Builtin.max_ ts t #[.int .i64 (1 + (a : Int) % 40), .int .i64 (1 + (b : Int) % 40)]).run Try.prog w = .ok (.int .i64 (p : Int)) w := by
    intro w ts t
    rw [max_two, show max (1 + (a : Int) % 40) (1 + (b : Int) % 40) = (p : Int) by omega]
  have h1 := fun w => need_Lu (m := p) (n := q) (c := c) (w := w) (by omega) (by omega) (by omega)
  have h2 := fun w => need_product (m := p) (k := q) (n := q) (c := c) (w := w) (by omega) (by omega) (by omega) (by omega)
  have h3 := fun w => need_Chol (n := q) (c := c) (w := w) (by omega) (by omega)
  have h4 := fun w => need_product (m := q) (k := q) (n := q) (c := c) (w := w) (by omega) (by omega) (by omega) (by omega)
  have t1 := luN_le (c := c) (show q ≤ p by omega)
  have t2 := cholN_le q c
  generalize luN p q c = A at *
  generalize needN p q q c = B at *
  generalize cholN q c = D at *
  generalize needN q q q c = E at *
  rw [show (q : Int) = 1 + (b : Int) % 40 by omega, show (c : Int) = 1 + (d : Int) % 20 by omega] at h1 h2 h3 h4
  have d1 : decide ((A : Int) ≤ (B : Int)) = true := decide_eq_true (by omega)
  have d2 : decide ((D : Int) ≤ (E : Int)) = true := decide_eq_true (by omega)
  have d3 : decide (A ≤ B) = true := decide_eq_true t1
  have d4 : decide (D ≤ E) = true := decide_eq_true t2
  clear hp hp0 hq hc t1 t2
  go_enter Try.func13, Try.ntmps13
  go_wp2_with fail
  refine hal.mono ?_
  rintro e1 W1 ⟨rfl, b1⟩
  go_wp2_with fail
  refine (h1 _).mono ?_
  rintro e1 W2 ⟨rfl, b2⟩
  replace b1 := below_both b1 b2
  go_wp2_with fail
  refine (h2 _).mono ?_
  rintro e1 W3 ⟨rfl, rfl⟩
  go_wp2_with fail
  refine (h3 _).mono ?_
  rintro e1 W3 ⟨rfl, b2⟩
  replace b1 := below_both b1 b2
  go_wp2_with fail
  refine (h4 _).mono ?_
  rintro e1 W4 ⟨rfl, rfl⟩
  clear h1 h2 h3 h4 hal
  go_wp2
  go_ret
  exact ⟨rfl, b1⟩
end Go.Proofs.Ytgppbimbampenaa
