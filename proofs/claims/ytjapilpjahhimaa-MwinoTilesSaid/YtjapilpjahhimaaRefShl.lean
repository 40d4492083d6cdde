/- vernierref01.Shl: the document's own shift up. -/
import Derived.Test.YtjapilpjahhimaaRefCut
import Derived.Laws.AppendOwnNone
import Derived.IntWalk
import Derived.Lib.Hide
namespace Go.Proofs.Ytjapilpjahhimaa
open Go.RowKit Go.Shelf

theorem run_append_zero {P : Program} {w : World} (base : Nat) (t ty e : TypeId) (i : TypeInfo) (size : Nat) (ht : P.underlying t = some (.slice e)) (hi : P.info? e = some i)
    (v : Value) (n : Nat) (xs : List Value) (hown : w.ownsRow base e size v n xs) (a : Option Addr) (c : Nat) :
    (Builtin.append_ #[t, t] ty #[v, .slice a 0 c]).run P w = .ok v w := by
  rcases hown.2 with ⟨rfl, rfl⟩ | ⟨g, cap, cur, rfl, _, _, hnc, _⟩
  · cases a <;> simp [Builtin.append_, run_underlying ht, sizeOf, typeInfo, hi, Builtin.lenOf, Builtin.firstCells, loadCells, loadCellsFrom]
  · cases a <;> simp [Builtin.append_, run_underlying ht, sizeOf, typeInfo, hi, Builtin.lenOf, Builtin.firstCells, hnc, storeCells, loadCells, loadCellsFrom]
/-- an append of no numbers -/
theorem wpList_append_zero {P : Program} {w : World} {ops : Array Oper} {rest : List Oper} {o : Oper} {a : Act} {Q : Exit → Act → World → Prop} (hgd : o.guard = none) (s x : Operand) (t : TypeId)
    (ho : o.op = .call { callee := .builtin .append, args := #[s, x], argTypes := #[t, t] })
    (base : Nat) (e : TypeId) (i : TypeInfo) (size : Nat) (ht : P.underlying t = some (.slice e)) (hi : P.info? e = some i)
    (v : Value) (n : Nat) (xs : List Value) (hs : a.eval s = v) (hown : w.ownsRow base e size v n xs) (ad : Option Addr) (c : Nat) (hx : a.eval x = .slice ad 0 c)
    (h : wpList P ops Q rest (a.put o.dst v) w) : wpList P ops Q (o :: rest) a w := by
  refine wpList_plain hgd fun K hK => ?_
  have hrun := run_append_zero (P := P) (w := w) base t o.type e i size ht hi v n xs hown ad c
  unfold Oper.wp
  simp [execOp, ho, resolve, invoke, builtin, hs, hx, hrun, Result.andThen]
  exact hK _ _ h
theorem Row.own {W : World} {base S : Nat} {s : List Nat} (h : Row .i64 3 W S s) (hb : base ≤ S) (hl : s.length ≤ maxLen) : W.ownsRow base 3 1 (.slice (some ⟨S, 0, none⟩) s.length s.length) s.length (ints s) :=
  ⟨by simp [ints], .inr ⟨S, s.length, cellsOf .i64 s, rfl, hb, h, Nat.le_refl _, hl, by simp [cellsOf], by simp only [Nat.mul_one, cellsOf, ints]; exact List.take_of_length_le (by simp)⟩⟩
theorem rn_one (W : World) (p : Nat) (h0 : p ≠ 0) (h : p < 65536) : RN (W.alloc (.cells #[.int .i64 (p : Int)] 3)) (.slice (some ⟨W.heap.size, 0, none⟩) 1 1) p 1 := by
  refine ⟨⟨W.heap.size, by simp, ?_⟩, by simpa using h⟩
  have e : digs 65536 p = [p] := by rw [digs_pos (by decide) h0, Nat.mod_eq_of_lt h, Nat.div_eq_of_lt h, digs_zero]
  rw [e]
  exact (Row.new W .i64 3 [p]).iat 1 (by simp)
theorem shl_digs (M q r : Nat) : cutz (List.replicate q 0 ++ digs 65536 (M * 2 ^ r)) = digs 65536 (M * 2 ^ (16 * q + r)) := by
  have hlow : Low 65536 (List.replicate q 0 ++ digs 65536 (M * 2 ^ r)) := by
    intro x hx
    rcases List.mem_append.1 hx with h | h
    · rw [(List.mem_replicate.1 h).2]; decide
    · exact digs_low (by decide) _ x h
  rw [cutz_eq_digs (by decide) hlow, val_append, val_zeros _ _ (fun x hx => (List.mem_replicate.1 hx).2), val_digs (by decide), List.length_replicate, Nat.zero_add]
  congr 1
  rw [show 65536 = 2 ^ 16 from rfl, ← Nat.pow_mul, Nat.pow_add, Nat.mul_left_comm]

end Go.Proofs.Ytjapilpjahhimaa

/- vernierref01.Shr: the document's own shift down. -/
namespace Go.Proofs.Ytjapilpjahhimaa
open Go.RowKit Go.Shelf

/-- digits by p, from the top: (the quotient's, what is left) -/
def shd (p : Nat) : List Nat → List Nat × Nat
  | [] => ([], 0)
  | x :: r => (((shd p r).2 * 65536 + x) / p :: (shd p r).1, ((shd p r).2 * 65536 + x) % p)
theorem shd_fine {p : Nat} (hp : 0 < p) {xs : List Nat} (h : Low 65536 xs) : (shd p xs).1.length = xs.length ∧ (shd p xs).2 < p ∧ Low 65536 (shd p xs).1 ∧ val 65536 (shd p xs).1 * p + (shd p xs).2 = val 65536 xs := by
  induction xs with
  | nil => exact ⟨rfl, hp, (by intro x hx; cases hx), by simp [shd, val]⟩
  | cons x r ih =>
    obtain ⟨h1, h2, h3, h4⟩ := ih fun y hy => h y (List.mem_cons_of_mem _ hy)
    have hx := h x (List.mem_cons_self ..)
    simp only [shd]
    generalize shd p r = s at *
    have hb : s.2 * 65536 + x < 65536 * p := by
      have : (s.2 + 1) * 65536 ≤ p * 65536 := Nat.mul_le_mul_right _ h2
      rw [Nat.add_mul] at this
      rw [Nat.mul_comm 65536]
      omega
    refine ⟨by simp [h1], Nat.mod_lt _ hp, ?_, ?_⟩
    · intro y hy
      rcases List.mem_cons.1 hy with e | e
      · subst e; exact (Nat.div_lt_iff_lt_mul hp).2 hb
      · exact h3 y e
    · have hdm := Nat.div_add_mod (s.2 * 65536 + x) p
      simp only [val]
      rw [Nat.add_mul, ← h4, Nat.mul_add, Nat.mul_assoc, Nat.mul_comm _ p]
      omega
theorem shd_drop (p : Nat) (xs : List Nat) (i : Nat) : (shd p (xs.drop i)).1 = (shd p xs).1.drop i := by
  induction i generalizing xs with
  | zero => rfl
  | succ i ih =>
    cases xs with
    | nil => rfl
    | cons x r => simp only [List.drop_succ_cons, shd]; exact ih r
theorem shd_at {p : Nat} {xs : List Nat} {i : Nat} (hi : i < xs.length) :
    (shd p (xs.drop i)).2 = ((shd p (xs.drop (i + 1))).2 * 65536 + lim xs i) % p ∧ lim (shd p xs).1 i = ((shd p (xs.drop (i + 1))).2 * 65536 + lim xs i) / p := by
  have e : xs.drop i = lim xs i :: xs.drop (i + 1) := by
    rw [List.drop_eq_getElem_cons hi]
    unfold lim; rw [List.getElem?_eq_getElem hi]; rfl
  refine ⟨by rw [e]; rfl, ?_⟩
  have h := shd_drop p xs i
  rw [e] at h
  have h2 := congrArg (fun l => lim l 0) h
  simp only [shd, lim_cons_zero] at h2
  rw [h2]
  unfold lim
  rw [List.getElem?_drop]
  rfl
theorem IAt.drop {b : Nat} {W : World} {xs : List Nat} {off m cap q : Nat} (h : IAt b W (.slice (some ⟨b, off, none⟩) m cap) xs) (hq : q < xs.length) : IAt b W (.slice (some ⟨b, off + q, none⟩) (xs.length - q) (cap - q)) (xs.drop q) := by
  obtain ⟨a, c, e, hc, _⟩ := h.slice
  cases e
  refine .inr ⟨off + q, cap - q, by rw [List.length_drop], by rw [List.length_drop]; omega, fun j hj => ?_⟩
  rw [List.length_drop] at hj
  have := h.cell (j := q + j) (by omega)
  rw [Nat.add_assoc, this]
  unfold lim
  rw [List.getElem?_drop]
theorem val_drop16 {xs : List Nat} (h : Low 65536 xs) (q : Nat) : val 65536 (xs.drop q) = val 65536 xs / 65536 ^ q := by
  rcases Nat.lt_or_ge xs.length q with hl | hl
  · rw [List.drop_eq_nil_of_le (by omega), Nat.div_eq_of_lt (Nat.lt_of_lt_of_le (val_lt h (by decide)) (Nat.pow_le_pow_right (by decide) (by omega)))]
    rfl
  · have e : xs = xs.take q ++ xs.drop q := (List.take_append_drop _ _).symm
    have h1 := val_append 65536 (xs.take q) (xs.drop q)
    rw [← e, List.length_take, Nat.min_eq_left hl] at h1
    have h2 : val 65536 (xs.take q) < 65536 ^ q := by
      have := val_lt (B := 65536) (xs := xs.take q) (fun x hx => h x (List.mem_of_mem_take hx)) (by decide)
      rwa [List.length_take, Nat.min_eq_left hl] at this
    rw [h1, Nat.add_mul_div_left _ _ (Nat.pow_pos (by decide)), Nat.div_eq_of_lt h2, Nat.zero_add]
theorem shr_digs {xs : List Nat} {p : Nat} (hp : 0 < p) (h : Low 65536 xs) : cutz (shd p xs).1 = digs 65536 (val 65536 xs / p) := by
  obtain ⟨_, h2, h3, h4⟩ := shd_fine hp h
  rw [cutz_eq_digs (by decide) h3]
  congr 1
  rw [← h4, Nat.add_comm, Nat.add_mul_div_right _ _ hp, Nat.div_eq_of_lt h2, Nat.zero_add]

end Go.Proofs.Ytjapilpjahhimaa

/- vernierref01.Div: the document's own division, bit by bit. -/
namespace Go.Proofs.Ytjapilpjahhimaa
open Go.RowKit Go.Shelf

theorem lim_digs {B : Nat} (hB : 1 < B) (n j : Nat) : lim (digs B n) j = n / B ^ j % B := by
  induction j generalizing n with
  | zero =>
    by_cases hn : n = 0
    · subst hn; rw [digs_zero]; simp [lim]
    · rw [digs_pos hB hn, lim_cons_zero]; simp
  | succ j ih =>
    by_cases hn : n = 0
    · subst hn; rw [digs_zero]; simp [lim]
    · rw [digs_pos hB hn, lim_cons_succ, ih, Nat.div_div_eq_div_mul, Nat.pow_succ, Nat.mul_comm B]
theorem bit_of (A i : Nat) : lim (digs 65536 A) (i / 16) / 2 ^ (i % 16) % 2 = A / 2 ^ i % 2 := by
  rw [lim_digs (by decide)]
  have h1 : 2 ^ i = 65536 ^ (i / 16) * 2 ^ (i % 16) := by
    rw [show 65536 = 2 ^ 16 from rfl, ← Nat.pow_mul, ← Nat.pow_add, Nat.div_add_mod]
  rw [h1, ← Nat.div_div_eq_div_mul]
  generalize A / 65536 ^ (i / 16) = d
  have hs : i % 16 < 16 := Nat.mod_lt _ (by decide)
  generalize i % 16 = s at *
  have h2 : 65536 = 2 ^ s * (2 * 2 ^ (15 - s)) := by
    rw [← Nat.pow_succ', ← Nat.pow_add, show s + (15 - s).succ = 16 by omega]
  rw [h2, Nat.mod_mul_right_div_self, Nat.mod_mul_right_mod]
theorem div_bit {A B i : Nat} (hB : 0 < B) :
    A / 2 ^ i / B = (if B ≤ 2 * (A / 2 ^ (i + 1) % B) + A / 2 ^ i % 2 then 2 * (A / 2 ^ (i + 1) / B) + 1 else 2 * (A / 2 ^ (i + 1) / B)) ∧
    A / 2 ^ i % B = (if B ≤ 2 * (A / 2 ^ (i + 1) % B) + A / 2 ^ i % 2 then 2 * (A / 2 ^ (i + 1) % B) + A / 2 ^ i % 2 - B else 2 * (A / 2 ^ (i + 1) % B) + A / 2 ^ i % 2) := by
  have e : A / 2 ^ (i + 1) = A / 2 ^ i / 2 := by rw [Nat.div_div_eq_div_mul, ← Nat.pow_succ]
  rw [e]
  generalize A / 2 ^ i = d
  have h1 := Nat.div_add_mod d 2
  have h2 := Nat.div_add_mod (d / 2) B
  have h3 := Nat.mod_lt (d / 2) hB
  have h4 := Nat.mod_lt d (show 0 < 2 by decide)
  generalize d / 2 / B = q at *
  generalize d / 2 % B = r at *
  generalize d % 2 = p at *
  have hd : d = B * (2 * q) + (2 * r + p) := by rw [Nat.mul_left_comm]; omega
  split
  · have hd2 : d = B * (2 * q + 1) + (2 * r + p - B) := by rw [Nat.mul_add]; omega
    have hl : 2 * r + p - B < B := by omega
    refine ⟨?_, ?_⟩
    · rw [hd2, Nat.mul_add_div hB, Nat.div_eq_of_lt hl] <;> try rfl
    · rw [hd2, Nat.mul_add_mod, Nat.mod_eq_of_lt hl]
  · have hl : 2 * r + p < B := by omega
    refine ⟨?_, ?_⟩
    · rw [hd, Nat.mul_add_div hB, Nat.div_eq_of_lt hl] <;> try rfl
    · rw [hd, Nat.mul_add_mod, Nat.mod_eq_of_lt hl]
theorem nbits16 {A k : Nat} (h : A < 65536 ^ k) : nbits A ≤ 16 * k := nbits_le (by rwa [show 65536 = 2 ^ 16 from rfl, ← Nat.pow_mul] at h)
theorem RN.re {w : World} {v : Value} {N k k' : Nat} (h : RN w v N k) (hk : N < 65536 ^ k') : RN w v N k' := ⟨h.1, hk⟩
section
variable {va vb : Value} {M N i j k : Nat} {w : World}
end
end Go.Proofs.Ytjapilpjahhimaa

/- vernierref01.Few: the document's own division where the quotient is small. -/
namespace Go.Proofs.Ytjapilpjahhimaa
open Go.RowKit Go.Shelf

theorem few_step {A D : Nat} (hD : 0 < D) :
    A / D = (if D ≤ A % (2 * D) then 2 * (A / (2 * D)) + 1 else 2 * (A / (2 * D))) ∧ A % D = (if D ≤ A % (2 * D) then A % (2 * D) - D else A % (2 * D)) := by
  have h2 : 0 < 2 * D := by omega
  have h1 := Nat.div_add_mod A (2 * D)
  have h3 := Nat.mod_lt A h2
  generalize A / (2 * D) = q at *
  generalize A % (2 * D) = r at *
  rw [show 2 * D * q = D * (2 * q) by rw [Nat.mul_comm 2 D, Nat.mul_assoc]] at h1
  split
  · have e : A = D * (2 * q + 1) + (r - D) := by rw [Nat.mul_add]; omega
    have hl : r - D < D := by omega
    refine ⟨?_, ?_⟩
    · rw [e, Nat.mul_add_div hD, Nat.div_eq_of_lt hl] <;> try rfl
    · rw [e, Nat.mul_add_mod, Nat.mod_eq_of_lt hl]
  · have hl : r < D := by omega
    refine ⟨?_, ?_⟩
    · rw [← h1, Nat.mul_add_div hD, Nat.div_eq_of_lt hl] <;> try rfl
    · rw [← h1, Nat.mul_add_mod, Nat.mod_eq_of_lt hl]
theorem few_top {A Y : Nat} (h0 : 0 < Y) (h : A / Y < 1152921504606846976) : A < Y * 2 ^ 60 := by
  have := (Nat.div_lt_iff_lt_mul h0).1 h
  rw [Nat.mul_comm]; simpa using this
end Go.Proofs.Ytjapilpjahhimaa
