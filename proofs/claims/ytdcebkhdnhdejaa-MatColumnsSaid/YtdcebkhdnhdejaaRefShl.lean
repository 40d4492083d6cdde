/- vernierref01.Shl: the document's own shift up. -/
import Derived.Test.YtdcebkhdnhdejaaRefCut
import Derived.Laws.AppendOwnNone
import Derived.IntWalk
namespace Go.Proofs.Ytdcebkhdnhdejaa
open Go.RowKit Go.Shelf

theorem run_append_zero {P : Program} {w : World} (base : Nat) (t ty e : TypeId) (i : TypeInfo) (size : Nat) (ht : P.underlying t = some (.slice e)) (hi : P.info? e = some i)
    (v : Value) (n : Nat) (xs : List Value) (hown : w.ownsRow base e size v n xs) (a : Option Addr) (c : Nat) :
    (Builtin.append_ #[t, t] ty #[v, .slice a 0 c]).run P w = .ok v w := by
  rcases hown.2 with ⟨rfl, rfl⟩ | ⟨g, cap, cur, rfl, _, _, hnc, _⟩
  · cases a <;> simp [Builtin.append_, run_underlying ht, sizeOf, typeInfo, hi, Builtin.lenOf, Builtin.firstCells, loadCells, loadCellsFrom]
  · cases a <;> simp [Builtin.append_, run_underlying ht, sizeOf, typeInfo, hi, Builtin.lenOf, Builtin.firstCells, hnc, storeCells, loadCells, loadCellsFrom]
/-- an append of no numbers -/
theorem wpList_append_zero {P : Program} {w : World} {ops : Array Oper} {rest : List Oper} {o : Oper} {a : Act} {Q : Exit → Act → World → Prop} (hgd : o.guard = none) (s x : Operand) (t : TypeId)
    (ho : o.op = .call { callee := .builtin .append, args := #[s, x], argTypes := #[t, t] })
    (base : Nat) (e : TypeId) (i : TypeInfo) (size : Nat) (ht : P.underlying t = some (.slice e)) (hi : P.info? e = some i)
    (v : Value) (n : Nat) (xs : List Value) (hs : a.eval s = v) (hown : w.ownsRow base e size v n xs) (ad : Option Addr) (c : Nat) (hx : a.eval x = .slice ad 0 c)
    (h : wpList P ops Q rest (a.put o.dst v) w) : wpList P ops Q (o :: rest) a w := by
  refine wpList_plain hgd fun K hK => ?_
  have hrun := run_append_zero (P := P) (w := w) base t o.type e i size ht hi v n xs hown ad c
  unfold Oper.wp
  simp [execOp, ho, resolve, invoke, builtin, hs, hx, hrun, Result.andThen]
  exact hK _ _ h
theorem Row.own {W : World} {base S : Nat} {s : List Nat} (h : Row .i64 3 W S s) (hb : base ≤ S) (hl : s.length ≤ maxLen) : W.ownsRow base 3 1 (.slice (some ⟨S, 0, none⟩) s.length s.length) s.length (ints s) :=
  ⟨by simp [ints], .inr ⟨S, s.length, cellsOf .i64 s, rfl, hb, h, Nat.le_refl _, hl, by simp [cellsOf], by simp only [Nat.mul_one, cellsOf, ints]; exact List.take_of_length_le (by simp)⟩⟩
theorem rn_one (W : World) (p : Nat) (h0 : p ≠ 0) (h : p < 65536) : RN (W.alloc (.cells #[.int .i64 (p : Int)] 3)) (.slice (some ⟨W.heap.size, 0, none⟩) 1 1) p 1 := by
  refine ⟨⟨W.heap.size, by simp, ?_⟩, by simpa using h⟩
  have e : digs 65536 p = [p] := by rw [digs_pos (by decide) h0, Nat.mod_eq_of_lt h, Nat.div_eq_of_lt h, digs_zero]
  rw [e]
  exact (Row.new W .i64 3 [p]).iat 1 (by simp)
theorem shl_digs (M q r : Nat) : cutz (List.replicate q 0 ++ digs 65536 (M * 2 ^ r)) = digs 65536 (M * 2 ^ (16 * q + r)) := by
  have hlow : Low 65536 (List.replicate q 0 ++ digs 65536 (M * 2 ^ r)) := by
    intro x hx
    rcases List.mem_append.1 hx with h | h
    · rw [(List.mem_replicate.1 h).2]; decide
    · exact digs_low (by decide) _ x h
  rw [cutz_eq_digs (by decide) hlow, val_append, val_zeros _ _ (fun x hx => (List.mem_replicate.1 hx).2), val_digs (by decide), List.length_replicate, Nat.zero_add]
  congr 1
  rw [show 65536 = 2 ^ 16 from rfl, ← Nat.pow_mul, Nat.pow_add, Nat.mul_left_comm]

end Go.Proofs.Ytdcebkhdnhdejaa

/- vernierref01.Shr: the document's own shift down. -/
namespace Go.Proofs.Ytdcebkhdnhdejaa
open Go.RowKit Go.Shelf

/-- digits by p, from the top: (the quotient's, what is left) -/
def shd (p : Nat) : List Nat → List Nat × Nat
  | [] => ([], 0)
  | x :: r => (((shd p r).2 * 65536 + x) / p :: (shd p r).1, ((shd p r).2 * 65536 + x) % p)
theorem shd_fine {p : Nat} (hp : 0 < p) {xs : List Nat} (h : Low 65536 xs) : (shd p xs).1.length = xs.length ∧ (shd p xs).2 < p ∧ Low 65536 (shd p xs).1 ∧ val 65536 (shd p xs).1 * p + (shd p xs).2 = val 65536 xs := by
  induction xs with
  | nil => exact ⟨rfl, hp, (by intro x hx; cases hx), by simp [shd, val]⟩
  | cons x r ih =>
    obtain ⟨h1, h2, h3, h4⟩ := ih fun y hy => h y (List.mem_cons_of_mem _ hy)
    have hx := h x (List.mem_cons_self ..)
    simp only [shd]
    generalize shd p r = s at *
    have hb : s.2 * 65536 + x < 65536 * p := by
      have : (s.2 + 1) * 65536 ≤ p * 65536 := Nat.mul_le_mul_right _ h2
      rw [Nat.add_mul] at this
      rw [Nat.mul_comm 65536]
      omega
    refine ⟨by simp [h1], Nat.mod_lt _ hp, ?_, ?_⟩
    · intro y hy
      rcases List.mem_cons.1 hy with e | e
      · subst e; exact (Nat.div_lt_iff_lt_mul hp).2 hb
      · exact h3 y e
    · have hdm := Nat.div_add_mod (s.2 * 65536 + x) p
      simp only [val]
      rw [Nat.add_mul, ← h4, Nat.mul_add, Nat.mul_assoc, Nat.mul_comm _ p]
      omega
theorem shd_drop (p : Nat) (xs : List Nat) (i : Nat) : (shd p (xs.drop i)).1 = (shd p xs).1.drop i := by
  induction i generalizing xs with
  | zero => rfl
  | succ i ih =>
    cases xs with
    | nil => rfl
    | cons x r => simp only [List.drop_succ_cons, shd]; exact ih r
theorem shd_at {p : Nat} {xs : List Nat} {i : Nat} (hi : i < xs.length) :
    (shd p (xs.drop i)).2 = ((shd p (xs.drop (i + 1))).2 * 65536 + lim xs i) % p ∧ lim (shd p xs).1 i = ((shd p (xs.drop (i + 1))).2 * 65536 + lim xs i) / p := by
  have e : xs.drop i = lim xs i :: xs.drop (i + 1) := by
    rw [List.drop_eq_getElem_cons hi]
    unfold lim; rw [List.getElem?_eq_getElem hi]; rfl
  refine ⟨by rw [e]; rfl, ?_⟩
  have h := shd_drop p xs i
  rw [e] at h
  have h2 := congrArg (fun l => lim l 0) h
  simp only [shd, lim_cons_zero] at h2
  rw [h2]
  unfold lim
  rw [List.getElem?_drop]
  rfl
theorem IAt.drop {b : Nat} {W : World} {xs : List Nat} {off m cap q : Nat} (h : IAt b W (.slice (some ⟨b, off, none⟩) m cap) xs) (hq : q < xs.length) : IAt b W (.slice (some ⟨b, off + q, none⟩) (xs.length - q) (cap - q)) (xs.drop q) := by
  obtain ⟨a, c, e, hc, _⟩ := h.slice
  cases e
  refine .inr ⟨off + q, cap - q, by rw [List.length_drop], by rw [List.length_drop]; omega, fun j hj => ?_⟩
  rw [List.length_drop] at hj
  have := h.cell (j := q + j) (by omega)
  rw [Nat.add_assoc, this]
  unfold lim
  rw [List.getElem?_drop]
theorem val_drop16 {xs : List Nat} (h : Low 65536 xs) (q : Nat) : val 65536 (xs.drop q) = val 65536 xs / 65536 ^ q := by
  rcases Nat.lt_or_ge xs.length q with hl | hl
  · rw [List.drop_eq_nil_of_le (by omega), Nat.div_eq_of_lt (Nat.lt_of_lt_of_le (val_lt h (by decide)) (Nat.pow_le_pow_right (by decide) (by omega)))]
    rfl
  · have e : xs = xs.take q ++ xs.drop q := (List.take_append_drop _ _).symm
    have h1 := val_append 65536 (xs.take q) (xs.drop q)
    rw [← e, List.length_take, Nat.min_eq_left hl] at h1
    have h2 : val 65536 (xs.take q) < 65536 ^ q := by
      have := val_lt (B := 65536) (xs := xs.take q) (fun x hx => h x (List.mem_of_mem_take hx)) (by decide)
      rwa [List.length_take, Nat.min_eq_left hl] at this
    rw [h1, Nat.add_mul_div_left _ _ (Nat.pow_pos (by decide)), Nat.div_eq_of_lt h2, Nat.zero_add]
theorem shr_digs {xs : List Nat} {p : Nat} (hp : 0 < p) (h : Low 65536 xs) : cutz (shd p xs).1 = digs 65536 (val 65536 xs / p) := by
  obtain ⟨_, h2, h3, h4⟩ := shd_fine hp h
  rw [cutz_eq_digs (by decide) h3]
  congr 1
  rw [← h4, Nat.add_comm, Nat.add_mul_div_right _ _ hp, Nat.div_eq_of_lt h2, Nat.zero_add]

end Go.Proofs.Ytdcebkhdnhdejaa
