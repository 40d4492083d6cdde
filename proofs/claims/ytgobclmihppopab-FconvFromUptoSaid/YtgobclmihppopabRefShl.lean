/- vernierref01.Shl: the document's own shift up. -/
import Derived.Test.YtgobclmihppopabRefCut
import Derived.Laws.AppendOwnNone
import Derived.IntWalk
namespace Go.Proofs.Ytgobclmihppopab
open Go.RowKit Go.Shelf

theorem run_append_zero {P : Program} {w : World} (base : Nat) (t ty e : TypeId) (i : TypeInfo) (size : Nat) (ht : P.underlying t = some (.slice e)) (hi : P.info? e = some i)
    (v : Value) (n : Nat) (xs : List Value) (hown : w.ownsRow base e size v n xs) (a : Option Addr) (c : Nat) :
    (Builtin.append_ #[t, t] ty #[v, .slice a 0 c]).run P w = .ok v w := by
  rcases hown.2 with ⟨rfl, rfl⟩ | ⟨g, cap, cur, rfl, _, _, hnc, _⟩
  · cases a <;> simp [Builtin.append_, run_underlying ht, sizeOf, typeInfo, hi, Builtin.lenOf, Builtin.firstCells, loadCells, loadCellsFrom]
  · cases a <;> simp [Builtin.append_, run_underlying ht, sizeOf, typeInfo, hi, Builtin.lenOf, Builtin.firstCells, hnc, storeCells, loadCells, loadCellsFrom]
/-- an append of no numbers -/
theorem wpList_append_zero {P : Program} {w : World} {ops : Array Oper} {rest : List Oper} {o : Oper} {a : Act} {Q : Exit → Act → World → Prop} (hgd : o.guard = none) (s x : Operand) (t : TypeId)
    (ho : o.op = .call { callee := .builtin .append, args := #[s, x], argTypes := #[t, t] })
    (base : Nat) (e : TypeId) (i : TypeInfo) (size : Nat) (ht : P.underlying t = some (.slice e)) (hi : P.info? e = some i)
    (v : Value) (n : Nat) (xs : List Value) (hs : a.eval s = v) (hown : w.ownsRow base e size v n xs) (ad : Option Addr) (c : Nat) (hx : a.eval x = .slice ad 0 c)
    (h : wpList P ops Q rest (a.put o.dst v) w) : wpList P ops Q (o :: rest) a w := by
  refine wpList_plain hgd fun K hK => ?_
  have hrun := run_append_zero (P := P) (w := w) base t o.type e i size ht hi v n xs hown ad c
  unfold Oper.wp
  simp [execOp, ho, resolve, invoke, builtin, hs, hx, hrun, Result.andThen]
  exact hK _ _ h
theorem Row.own {W : World} {base S : Nat} {s : List Nat} (h : Row .i64 3 W S s) (hb : base ≤ S) (hl : s.length ≤ maxLen) : W.ownsRow base 3 1 (.slice (some ⟨S, 0, none⟩) s.length s.length) s.length (ints s) :=
  ⟨by simp [ints], .inr ⟨S, s.length, cellsOf .i64 s, rfl, hb, h, Nat.le_refl _, hl, by simp [cellsOf], by simp only [Nat.mul_one, cellsOf, ints]; exact List.take_of_length_le (by simp)⟩⟩
theorem rn_one (W : World) (p : Nat) (h0 : p ≠ 0) (h : p < 65536) : RN (W.alloc (.cells #[.int .i64 (p : Int)] 3)) (.slice (some ⟨W.heap.size, 0, none⟩) 1 1) p 1 := by
  refine ⟨⟨W.heap.size, by simp, ?_⟩, by simpa using h⟩
  have e : digs 65536 p = [p] := by rw [digs_pos (by decide) h0, Nat.mod_eq_of_lt h, Nat.div_eq_of_lt h, digs_zero]
  rw [e]
  exact (Row.new W .i64 3 [p]).iat 1 (by simp)
theorem shl_digs (M q r : Nat) : cutz (List.replicate q 0 ++ digs 65536 (M * 2 ^ r)) = digs 65536 (M * 2 ^ (16 * q + r)) := by
  have hlow : Low 65536 (List.replicate q 0 ++ digs 65536 (M * 2 ^ r)) := by
    intro x hx
    rcases List.mem_append.1 hx with h | h
    · rw [(List.mem_replicate.1 h).2]; decide
    · exact digs_low (by decide) _ x h
  rw [cutz_eq_digs (by decide) hlow, val_append, val_zeros _ _ (fun x hx => (List.mem_replicate.1 hx).2), val_digs (by decide), List.length_replicate, Nat.zero_add]
  congr 1
  rw [show 65536 = 2 ^ 16 from rfl, ← Nat.pow_mul, Nat.pow_add, Nat.mul_left_comm]

set_option maxRecDepth 100000 in
set_option maxHeartbeats 4000000 in
theorem rshl_num {va : Value} {M i m : Nat} {w : World} (hA : RN w va M i) (hi : i ≤ 4398046511103) (hm : m ≤ 65536) :
    Calls Try.prog 44 #[va, .int .i64 (m : Int)] w fun e W' => ∃ v, e = .returned v ∧ RN W' v (M * 2 ^ m) (i + m / 16 + 1) ∧ Below w.heap.size w W' := by
  obtain ⟨q, hq⟩ : ∃ q, q = m / 16 := ⟨_, rfl⟩
  obtain ⟨r, hr⟩ : ∃ r, r = m % 16 := ⟨_, rfl⟩
  have hqm : (m : Int) / 16 = (q : Int) := by omega
  have hrm : (m : Int) % 16 = (r : Int) := by omega
  have hql : q ≤ 4096 := by omega
  have hr16 : r < 16 := by omega
  have hlim : M * 2 ^ m < 65536 ^ (i + m / 16 + 1) := by
    have e : 65536 ^ (i + m / 16 + 1) = 65536 ^ i * 2 ^ (16 * (m / 16) + 16) := by
      rw [Nat.add_assoc, Nat.pow_add]
      congr 1
      rw [show 65536 = 2 ^ 16 from rfl, ← Nat.pow_mul, Nat.mul_add]
    rw [e]
    exact Nat.mul_lt_mul_of_lt_of_le hA.2 (Nat.pow_le_pow_right (by decide) (by omega)) (Nat.pow_pos (by decide))
  have hfin : Hid (cutz (List.replicate q 0 ++ digs 65536 (M * 2 ^ r)) = digs 65536 (M * 2 ^ m)) := Lib.hid (by rw [shl_digs, hq, hr, Nat.div_add_mod])
  have HL := Lib.hid hlim
  have hmk : ∀ u : World, (Instr.makeSlice 52 (.int .i64 (q : Int)) (.int .i64 (q : Int))).run Try.prog u = .ok (.slice (some ⟨u.heap.size, 0, none⟩) q q) (u.alloc (.cells (cellsOf .i64 (List.replicate q 0)) 3)) := make_N q (by omega)
  have b1 : Below w.heap.size w (w.alloc (.cells (cellsOf .i64 (List.replicate q 0)) 3)) := (Below.refl _ w).alloc (Nat.le_refl _) _
  have r1 := Row.new w .i64 3 (List.replicate q 0)
  have hA1 := hA.behind b1
  obtain ⟨xa, xc, rfl, hxc⟩ := hA.slice
  clear hq hr hlim
  obtain ⟨i0, hi0, hz0, hz1, hz2⟩ := info_parts info_int
  go_enter Try.func44, Try.ntmps44
  go_wp2
  clear hmk
  generalize (w.alloc (.cells (cellsOf .i64 (List.replicate q 0)) 3)) = W0 at b1 r1 hA1 ⊢
  go_loop [6, 7] (fun p k => ∃ j P : Nat, j ≤ r ∧ k = .int .i64 j ∧ Hid (P = 2 ^ j) ∧ P ≤ 32768 ∧ p = .int .i64 P) (fun _ k => r - (intOf k).toNat)
  case atStart => exact ⟨0, 1, Nat.zero_le _, rfl, Lib.hid rfl, by decide, rfl⟩
  case round =>
    obtain ⟨j, P, hj, rfl, hP, hPl, rfl⟩ := hrel
    by_cases hlt : j < r
    · have hP2 : Hid (2 * P = 2 ^ (j + 1)) := Lib.hid (by rw [hP.out, Nat.pow_succ, Nat.mul_comm])
      have hPl2 : 2 * P ≤ 32768 := by
        rw [hP2.out]
        exact Nat.pow_le_pow_right (n := 2) (by decide) (show j + 1 ≤ 15 by omega)
      go_wp2
      go_round
      case rel => exact ⟨j + 1, 2 * P, by omega, by simp, hP2, hPl2, by simp⟩
      case measure => simp [intOf]; omega
    · obtain rfl : j = r := by omega
      have hP0 : P ≠ 0 := by rw [hP.out]; exact Nat.ne_of_gt (Nat.pow_pos (by decide))
      have hone := rn_one W0 P hP0 (by omega)
      have b2 : Below W0.heap.size W0 (W0.alloc (.cells #[.int .i64 (P : Int)] 3)) := (Below.refl _ W0).alloc (Nat.le_refl _) _
      have hA2 := hA1.behind b2
      have r2 := r1.behind b2
      have B2 := below_both b1 b2
      go_wp2_with fail
      generalize (W0.alloc (.cells #[.int .i64 (P : Int)] 3)) = W1 at hone b2 hA2 r2 B2 ⊢
      refine (rmul_num hA2 hone (by omega) (by omega)).mono ?_
      rintro e w2 ⟨v2, rfl, rn2, b3⟩
      have r3 := r2.behind b3
      have B3 := below_both B2 b3
      have hP' := hP.out
      subst hP'
      have hlen := rn2.len
      obtain ⟨⟨S, hS, hat⟩, _⟩ := rn2
      have hown : Hid (w2.ownsRow w.heap.size 3 1 (.slice (some ⟨w.heap.size, 0, none⟩) q q) q (ints (List.replicate q 0))) := Lib.hid (by
        have := r3.own (base := w.heap.size) (Nat.le_refl _) (by simp only [List.length_replicate, maxLen]; omega)
        simpa using this)
      have hlt2 := r3.lt
      have hcz := fun (b : Nat) (v : Value) (xs : List Nat) (h : xs.length ≤ 9223372036854775806) (u : World) (hI : IAt b u v xs) => cut_calls b v xs h u hI
      have HC := Lib.hid hcz
      have HF := hfin.out
      have hdl : (digs 65536 (M * 2 ^ j)).length ≤ 4398046511105 := by omega
      have hall : (List.replicate q 0 ++ digs 65536 (M * 2 ^ j)).length ≤ 9223372036854775806 := by simp only [List.length_append, List.length_replicate]; omega
      clear hcz hone r2 hA2 r1 hA1 hA hxc hlen
      rcases hat with ⟨⟨a2, c2, rfl⟩, he⟩ | ⟨off, c2, rfl, hc2, hcell⟩
      · have HI0 : Hid (IAt w.heap.size w2 (.slice (some ⟨w.heap.size, 0, none⟩) q q) (List.replicate q 0)) := Lib.hid (by
          have := r3.iat q (by simp)
          simpa using this)
        rw [he, List.append_nil] at HF
        have HF := Lib.hid HF
        have HE := Lib.hid he
        clear he hall
        go_wp2_with (at_builtin; refine wpList_append_zero rfl _ _ 52 rfl w.heap.size 3 i0 1 Try.underlying52 hi0 (.slice (some ⟨w.heap.size, 0, none⟩) q q) q _ rfl hown.out a2 c2 rfl ?_)
        refine (HC.out _ _ _ (by simp; omega) _ HI0.out).mono ?_
        rintro e w4 ⟨v4, rfl, h4, rfl⟩
        rw [HF.out] at h4
        obtain ⟨x4, y4, z4, rfl⟩ : ∃ a l c, v4 = .slice a l c := by
          obtain ⟨a, c, e, _⟩ := IAt.slice h4
          exact ⟨a, _, c, e⟩
        go_wp2
        go_ret
        exact ⟨_, rfl, ⟨⟨_, hlt2, h4⟩, HL.out⟩, B3⟩
      · generalize digs 65536 (M * 2 ^ j) = E at *
        have hnews : Hid (∀ k u, (ints E)[k]? = some u → w2.cell? ((⟨S, off, none⟩ : Addr).add k) = some u) := Lib.hid (by
          intro k u hu
          have hk : k < E.length := by
            rcases Nat.lt_or_ge k E.length with h | h
            · exact h
            · rw [List.getElem?_eq_none (by simpa [ints] using h)] at hu; cases hu
          have e : u = .int .i64 (lim E k : Int) := by
            simp [ints, List.getElem?_eq_getElem hk] at hu
            rw [← hu]; simp [lim, List.getElem?_eq_getElem hk]
          have ha : (⟨S, off, none⟩ : Addr).add k = ⟨S, off + k, none⟩ := by
            unfold Addr.add; split <;> simp_all
          rw [ha, e]
          exact hcell k hk)
        have hone1 : Hid (∀ u ∈ ints E, u.oneCell' = true) := Lib.hid (by intro u hu; obtain ⟨x, _, rfl⟩ := List.mem_map.1 hu; rfl)
        have HF := Lib.hid HF
        have HALL := Lib.hid hall
        clear hcell hall
        go_wp2_with (at_builtin; refine wpList_append_own _ rfl _ _ 52 rfl w.heap.size 3 i0 (.int .i64 0) 1 8 Try.underlying52 hi0 hz0 hz1 hz2 rfl (by decide) (.slice (some ⟨w.heap.size, 0, none⟩) q q) q (ints (List.replicate q 0)) rfl hown.out ⟨S, off, none⟩ E.length c2 (ints E) rfl (by simp [ints]) hnews.out hone1.out (by unfold maxLen; omega) (by omega) B3.size ?_; intro v' w3 hown' hgrow _)
        have B4 : Below w.heap.size w w3 := B3.grown hgrow B3.size (fun k e => by simp [Value.ownBlock] at e; omega)
        have hown2 : w3.ownsRow w.heap.size 3 1 v' (q + E.length) (ints (List.replicate q 0 ++ E)) := by
          rw [show ints (List.replicate q 0 ++ E) = ints (List.replicate q 0) ++ ints E by simp [ints]]
          exact hown'
        have hlt3 : w.heap.size < w3.heap.size := Nat.lt_of_lt_of_le hlt2 hgrow.size
        obtain ⟨S3, hS3, hI3⟩ := own_arg hown2 hlt3
        have hcall := HC.out S3 v' _ HALL.out w3 hI3
        rw [HF.out] at hcall
        obtain ⟨x3, z3, rfl, _, _⟩ := hI3.slice
        refine hcall.mono ?_
        rintro e w4 ⟨v4, rfl, h4, rfl⟩
        obtain ⟨x4, y4, z4, rfl⟩ : ∃ a l c, v4 = .slice a l c := by
          obtain ⟨a, c, e, _⟩ := IAt.slice h4
          exact ⟨a, _, c, e⟩
        clear hown' hown2 hgrow hcall hI3
        go_wp2
        go_ret
        exact ⟨_, rfl, ⟨⟨_, hS3, h4⟩, HL.out⟩, B4⟩
end Go.Proofs.Ytgobclmihppopab

/- vernierref01.Shr: the document's own shift down. -/
namespace Go.Proofs.Ytgobclmihppopab
open Go.RowKit Go.Shelf

/-- digits by p, from the top: (the quotient's, what is left) -/
def shd (p : Nat) : List Nat → List Nat × Nat
  | [] => ([], 0)
  | x :: r => (((shd p r).2 * 65536 + x) / p :: (shd p r).1, ((shd p r).2 * 65536 + x) % p)
theorem shd_fine {p : Nat} (hp : 0 < p) {xs : List Nat} (h : Low 65536 xs) : (shd p xs).1.length = xs.length ∧ (shd p xs).2 < p ∧ Low 65536 (shd p xs).1 ∧ val 65536 (shd p xs).1 * p + (shd p xs).2 = val 65536 xs := by
  induction xs with
  | nil => exact ⟨rfl, hp, (by intro x hx; cases hx), by simp [shd, val]⟩
  | cons x r ih =>
    obtain ⟨h1, h2, h3, h4⟩ := ih fun y hy => h y (List.mem_cons_of_mem _ hy)
    have hx := h x (List.mem_cons_self ..)
    simp only [shd]
    generalize shd p r = s at *
    have hb : s.2 * 65536 + x < 65536 * p := by
      have : (s.2 + 1) * 65536 ≤ p * 65536 := Nat.mul_le_mul_right _ h2
      rw [Nat.add_mul] at this
      rw [Nat.mul_comm 65536]
      omega
    refine ⟨by simp [h1], Nat.mod_lt _ hp, ?_, ?_⟩
    · intro y hy
      rcases List.mem_cons.1 hy with e | e
      · subst e; exact (Nat.div_lt_iff_lt_mul hp).2 hb
      · exact h3 y e
    · have hdm := Nat.div_add_mod (s.2 * 65536 + x) p
      simp only [val]
      rw [Nat.add_mul, ← h4, Nat.mul_add, Nat.mul_assoc, Nat.mul_comm _ p]
      omega
theorem shd_drop (p : Nat) (xs : List Nat) (i : Nat) : (shd p (xs.drop i)).1 = (shd p xs).1.drop i := by
  induction i generalizing xs with
  | zero => rfl
  | succ i ih =>
    cases xs with
    | nil => rfl
    | cons x r => simp only [List.drop_succ_cons, shd]; exact ih r
theorem shd_at {p : Nat} {xs : List Nat} {i : Nat} (hi : i < xs.length) :
    (shd p (xs.drop i)).2 = ((shd p (xs.drop (i + 1))).2 * 65536 + lim xs i) % p ∧ lim (shd p xs).1 i = ((shd p (xs.drop (i + 1))).2 * 65536 + lim xs i) / p := by
  have e : xs.drop i = lim xs i :: xs.drop (i + 1) := by
    rw [List.drop_eq_getElem_cons hi]
    unfold lim; rw [List.getElem?_eq_getElem hi]; rfl
  refine ⟨by rw [e]; rfl, ?_⟩
  have h := shd_drop p xs i
  rw [e] at h
  have h2 := congrArg (fun l => lim l 0) h
  simp only [shd, lim_cons_zero] at h2
  rw [h2]
  unfold lim
  rw [List.getElem?_drop]
  rfl
theorem IAt.drop {b : Nat} {W : World} {xs : List Nat} {off m cap q : Nat} (h : IAt b W (.slice (some ⟨b, off, none⟩) m cap) xs) (hq : q < xs.length) : IAt b W (.slice (some ⟨b, off + q, none⟩) (xs.length - q) (cap - q)) (xs.drop q) := by
  obtain ⟨a, c, e, hc, _⟩ := h.slice
  cases e
  refine .inr ⟨off + q, cap - q, by rw [List.length_drop], by rw [List.length_drop]; omega, fun j hj => ?_⟩
  rw [List.length_drop] at hj
  have := h.cell (j := q + j) (by omega)
  rw [Nat.add_assoc, this]
  unfold lim
  rw [List.getElem?_drop]
theorem val_drop16 {xs : List Nat} (h : Low 65536 xs) (q : Nat) : val 65536 (xs.drop q) = val 65536 xs / 65536 ^ q := by
  rcases Nat.lt_or_ge xs.length q with hl | hl
  · rw [List.drop_eq_nil_of_le (by omega), Nat.div_eq_of_lt (Nat.lt_of_lt_of_le (val_lt h (by decide)) (Nat.pow_le_pow_right (by decide) (by omega)))]
    rfl
  · have e : xs = xs.take q ++ xs.drop q := (List.take_append_drop _ _).symm
    have h1 := val_append 65536 (xs.take q) (xs.drop q)
    rw [← e, List.length_take, Nat.min_eq_left hl] at h1
    have h2 : val 65536 (xs.take q) < 65536 ^ q := by
      have := val_lt (B := 65536) (xs := xs.take q) (fun x hx => h x (List.mem_of_mem_take hx)) (by decide)
      rwa [List.length_take, Nat.min_eq_left hl] at this
    rw [h1, Nat.add_mul_div_left _ _ (Nat.pow_pos (by decide)), Nat.div_eq_of_lt h2, Nat.zero_add]
theorem shr_digs {xs : List Nat} {p : Nat} (hp : 0 < p) (h : Low 65536 xs) : cutz (shd p xs).1 = digs 65536 (val 65536 xs / p) := by
  obtain ⟨_, h2, h3, h4⟩ := shd_fine hp h
  rw [cutz_eq_digs (by decide) h3]
  congr 1
  rw [← h4, Nat.add_comm, Nat.add_mul_div_right _ _ hp, Nat.div_eq_of_lt h2, Nat.zero_add]

set_option maxRecDepth 100000 in
set_option maxHeartbeats 4000000 in
theorem rshr_num {va : Value} {M i m : Nat} {w : World} (hA : RN w va M i) (hi : i ≤ 4398046511103) (hm : m ≤ 65536) :
    Calls Try.prog 73 #[va, .int .i64 (m : Int)] w fun e W' => ∃ v, e = .returned v ∧ RN W' v (M / 2 ^ m) i ∧ Below w.heap.size w W' := by
  obtain ⟨q, hq⟩ : ∃ q, q = m / 16 := ⟨_, rfl⟩
  obtain ⟨r, hr⟩ : ∃ r, r = m % 16 := ⟨_, rfl⟩
  have hqm : (m : Int) / 16 = (q : Int) := by omega
  have hrm : (m : Int) % 16 = (r : Int) := by omega
  have hr16 : r < 16 := by omega
  have hlen := hA.len
  have HL : Hid (M / 2 ^ m < 65536 ^ i) := Lib.hid (Nat.lt_of_le_of_lt (Nat.div_le_self _ _) hA.2)
  have hpow : M / 2 ^ m = M / 65536 ^ q / 2 ^ r := by
    rw [Nat.div_div_eq_div_mul, show 65536 = 2 ^ 16 from rfl, ← Nat.pow_mul, ← Nat.pow_add, hq, hr, Nat.div_add_mod]
  obtain ⟨⟨S, hS, hat⟩, _⟩ := hA
  have hxl := digs_low (B := 65536) (by decide) M
  have hval := val_drop16 hxl q
  rw [val_digs (by decide)] at hval
  obtain ⟨xa, xc, rfl, hxc, hxs⟩ := hat.slice
  clear hq hr
  by_cases hge : (digs 65536 M).length ≤ q
  · have hz : Hid (digs 65536 (M / 2 ^ m) = []) := Lib.hid (by
      rw [hpow, ← hval, List.drop_eq_nil_of_le hge]
      simp [val, digs_zero])
    have hge' : ((digs 65536 M).length : Int) ≤ (q : Int) := by omega
    clear hpow hval
    generalize (digs 65536 M).length = L at *
    go_enter Try.func73, Try.ntmps73
    go_wp2
    go_ret
    exact ⟨_, rfl, ⟨⟨S, hS, .inl ⟨⟨_, _, rfl⟩, hz.out⟩⟩, HL.out⟩, Below.refl _ _⟩
  · have hlt : q < (digs 65536 M).length := by omega
    obtain ⟨off, rfl⟩ := hxs (by omega)
    have hdr := hat.drop hlt
    have hdlow : Low 65536 ((digs 65536 M).drop q) := fun x hx => hxl x (List.mem_of_mem_drop hx)
    have hdl : ((digs 65536 M).drop q).length = (digs 65536 M).length - q := List.length_drop
    generalize hxs' : (digs 65536 M).drop q = xs at *
    generalize hL0 : (digs 65536 M).length = L0 at *
    have hp0 : 0 < 2 ^ r := Nat.pow_pos (by decide)
    have hfin : Hid (cutz (shd (2 ^ r) xs).1 = digs 65536 (M / 2 ^ m)) := Lib.hid (by rw [shr_digs hp0 hdlow, hval, hpow])
    have hx0 : 0 < xs.length := by omega
    have HD := Lib.hid hdl
    have hxlen : xs.length ≤ 4398046511103 := by omega
    have hL0l : L0 ≤ 4398046511103 := by omega
    obtain ⟨Lx, hLx⟩ : ∃ Lx, Lx = xs.length := ⟨_, rfl⟩
    have hsub : L0 - q = Lx := by omega
    have hcapx : q ≤ xc := by omega
    rw [hsub] at hdr
    have hmk : ∀ u : World, (Instr.makeSlice 52 (.int .i64 (Lx : Int)) (.int .i64 (Lx : Int))).run Try.prog u = .ok (.slice (some ⟨u.heap.size, 0, none⟩) Lx Lx) (u.alloc (.cells (cellsOf .i64 (List.replicate Lx 0)) 3)) := make_N Lx (by omega)
    have hgeB : decide (q < L0) = true := decide_eq_true hlt
    have HSUB := Lib.hid hsub
    have HLX := Lib.hid hLx
    clear hpow hval hxs hat hxl hdl hL0 hxs' hge hLx
    go_enter Try.func73, Try.ntmps73
    go_wp2
    go_loop [5, 6] (fun p k => ∃ j P : Nat, j ≤ r ∧ k = .int .i64 j ∧ Hid (P = 2 ^ j) ∧ P ≤ 32768 ∧ p = .int .i64 P) (fun _ k => r - (intOf k).toNat)
    case atStart => exact ⟨0, 1, Nat.zero_le _, rfl, Lib.hid rfl, by decide, rfl⟩
    case round =>
      obtain ⟨j, P, hj, rfl, hP, hPl, rfl⟩ := hrel
      by_cases hlt2 : j < r
      · have hP2 : Hid (2 * P = 2 ^ (j + 1)) := Lib.hid (by rw [hP.out, Nat.pow_succ, Nat.mul_comm])
        have hPl2 : 2 * P ≤ 32768 := by
          rw [hP2.out]
          exact Nat.pow_le_pow_right (n := 2) (by decide) (show j + 1 ≤ 15 by omega)
        go_wp2
        go_round
        case rel => exact ⟨j + 1, 2 * P, by omega, by simp, hP2, hPl2, by simp⟩
        case measure => simp [intOf]; omega
      · obtain rfl : j = r := by omega
        have hP0 : 0 < P := by rw [hP.out]; exact Nat.pow_pos (by decide)
        have r1 := Row.new w .i64 3 (List.replicate Lx 0)
        have b1 : Below w.heap.size w (w.alloc (.cells (cellsOf .i64 (List.replicate Lx 0)) 3)) := (Below.refl _ w).alloc (Nat.le_refl _) _
        have hfn := shd_fine hP0 hdlow
        have hPe := hP.out
        rw [← hPe] at hfin
        have HFN := Lib.hid hfn
        have hst0 : Hid (0 = (shd P (xs.drop Lx)).2) := Lib.hid (by rw [HLX.out, List.drop_eq_nil_of_le (Nat.le_refl _)]; rfl)
        clear hfn hPe hP
        go_wp2
        clear hmk
        generalize (w.alloc (.cells (cellsOf .i64 (List.replicate Lx 0)) 3)) = W0 at r1 b1 ⊢
        go_loopw [8, 9] (fun c iv wr => ∃ (k C : Nat) (s : List Nat) (z : Int), iv = .int .i64 z ∧ z + 1 = k ∧ k ≤ Lx ∧ Hid (C = (shd P (xs.drop k)).2) ∧ C < P ∧ c = .int .i64 C ∧ Row .i64 3 wr w.heap.size s ∧ s.length = Lx ∧ Hid (∀ j, k ≤ j → j < Lx → lim s j = lim (shd P xs).1 j) ∧ Below w.heap.size w wr) (fun _ iv _ => (intOf iv + 1).toNat)
        case atStart => exact ⟨Lx, 0, _, _, rfl, by omega, Nat.le_refl _, hst0, hP0, rfl, r1, by simp, Lib.hid (fun j h1 h2 => by omega), b1⟩
        case round =>
          obtain ⟨k, C, s, z, rfl, hz, hk, hC, hCP, rfl, hr, hsl, HS, hB⟩ := hrel
          by_cases hk0 : k = 0
          · subst hk0
            obtain rfl : z = -1 := by omega
            have hse : s = (shd P xs).1 := lim_ext (by rw [HFN.out.1, ← HLX.out, hsl]) (fun j hj => HS.out j (Nat.zero_le _) (by omega))
            have hI := hr.iat Lx (by omega)
            rw [hsl] at hI
            have hcc := cut_calls w.heap.size (.slice (some ⟨w.heap.size, 0, none⟩) Lx Lx) s (by omega) wr hI
            rw [hse, hfin.out] at hcc
            have HCC := Lib.hid hcc
            have hlt9 := hr.lt
            clear hcc hI hse hsl hz
            go_wp2_with fail
            refine HCC.out.mono ?_
            rintro e w4 ⟨v4, rfl, h4, rfl⟩
            obtain ⟨x4, y4, z4, rfl⟩ : ∃ a l c, v4 = .slice a l c := by
              obtain ⟨a, c, e, _⟩ := IAt.slice h4
              exact ⟨a, _, c, e⟩
            go_wp2
            go_ret
            exact ⟨_, rfl, ⟨⟨_, hlt9, h4⟩, HL.out⟩, hB⟩
          · obtain ⟨i', hi'⟩ : ∃ i', k = i' + 1 := ⟨k - 1, by omega⟩
            subst hi'
            obtain rfl : z = (i' : Int) := by omega
            have hil : i' < xs.length := by have := HLX.out; omega
            obtain ⟨t1, t2⟩ := shd_at (p := P) hil
            rw [← hC.out] at t1 t2
            have hxl := lim_lt hdlow (by decide) i'
            have hcell : wr.cell? ⟨S, off + q + i', none⟩ = some (.int .i64 (lim xs i' : Int)) := (hB.cell (p := ⟨S, off + q + i', none⟩) hS).trans (hdr.cell hil)
            have hc9 := hr.cell (i := i') (by omega)
            have hf9 := hr.frozen i'
            generalize lim xs i' = x at *
            obtain ⟨o, ho⟩ : ∃ o, o = (C * 65536 + x) / P := ⟨_, rfl⟩
            obtain ⟨c', hc'⟩ : ∃ c', c' = (C * 65536 + x) % P := ⟨_, rfl⟩
            have e0 : (C : Int) * 65536 + (x : Int) = ((C * 65536 + x : Nat) : Int) := by omega
            have e1 : ((C : Int) * 65536 + (x : Int)) / (P : Int) = (o : Int) := by rw [e0, ho]; rfl
            have e2 : ((C : Int) * 65536 + (x : Int)) % (P : Int) = (c' : Int) := by rw [e0, hc']; rfl
            have hc'P : c' < P := by rw [hc']; exact Nat.mod_lt _ hP0
            rw [← hc'] at t1
            rw [← ho] at t2
            have HS2 : Hid (∀ j, i' ≤ j → j < Lx → lim (s.set i' o) j = lim (shd P xs).1 j) := Lib.hid (fun j h1 h2 => by
              rw [lim_set]
              by_cases hj : j = i'
              · subst hj
                rw [if_pos ⟨rfl, by omega⟩, t2]
              · rw [if_neg (by omega)]
                exact HS.out j (by omega) h2)
            have T1 := Lib.hid t1.symm
            have hsl2 : (s.set i' o).length = Lx := by simpa using hsl
            have nr := hr.set i' o
            have nB := hB.setCell (p := ⟨w.heap.size, i', none⟩) (Nat.le_refl _) (.int .i64 (o : Int))
            have hiL : (i' : Int) < (Lx : Int) := by have := HLX.out; omega
            have hP1 : (1 : Int) ≤ (P : Int) := by omega
            have HSL2 := Lib.hid hsl2
            have hkk : Hid ((i' : Int) - 1 + 1 = (i' : Int)) := Lib.hid (by omega)
            clear t1 t2 ho hc' e0 hsl hsl2 hz hk0 hC
            go_wp2
            go_roundw
            case rel => exact ⟨i', c', _, _, rfl, by omega, by omega, T1, hc'P, by rw [e2], nr, HSL2.out, HS2, nB⟩
            case measure => simp [intOf]
end Go.Proofs.Ytgobclmihppopab
