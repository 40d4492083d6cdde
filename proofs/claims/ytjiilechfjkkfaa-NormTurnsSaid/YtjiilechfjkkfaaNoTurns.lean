/- vernierlaw23: NormTurns, walked. -/
import Derived.Test.YtjiilechfjkkfaaNoLess
import Derived.Test.YtjiilechfjkkfaaShCalls
import Derived.Deep.AppendLies
import Derived.Deep.CutRange
namespace Go.Proofs.Ytjiilechfjkkfaa
open Go.RowKit Go.Shelf
theorem flip_mag {x : Nat} (h : x < 18446744073709551616) : mag (flip x) = mag x ∧ cls (flip x) = cls x ∧ flip x < 18446744073709551616 := by
  have e := flip_eq h
  refine ⟨?_, (flip_told h).1, (flip_facts h).1⟩
  rw [e]
  unfold mag neg6
  by_cases q : (9223372036854775808 : Int) ≤ (x : Int)
  · rw [decide_eq_true q, if_pos rfl]; omega
  · rw [decide_eq_false q, if_neg (by decide)]; omega
/-- signs turned, the first n -/
def turnL (xs : List Nat) (B : Nat → Bool) (n : Nat) : List Nat := upd (fun i => if B i then flip (lim xs i) else lim xs i) xs n
theorem turn_at {xs : List Nat} {B : Nat → Bool} {n k : Nat} (hx : Low 18446744073709551616 xs) (hk : k < xs.length) : mag (lim (turnL xs B n) k) = mag (lim xs k) ∧ cls (lim (turnL xs B n) k) = cls (lim xs k) ∧ lim (turnL xs B n) k < 18446744073709551616 := by
  have h0 := lim_lt hx (by decide : 0 < 18446744073709551616) k
  have h := flip_mag h0
  unfold turnL
  rw [upd_at hk]
  split
  · split
    · exact h
    · exact ⟨rfl, rfl, h0⟩
  · exact ⟨rfl, rfl, h0⟩
theorem turn_low {xs : List Nat} {B : Nat → Bool} {n : Nat} (hx : Low 18446744073709551616 xs) : Low 18446744073709551616 (turnL xs B n) := by
  intro y hy
  obtain ⟨k, hk, rfl⟩ := List.getElem_of_mem hy
  have hl : (turnL xs B n).length = xs.length := upd_length _ _ _
  have := (turn_at (B := B) (n := n) hx (k := k) (by omega)).2.2
  unfold lim at this
  rwa [List.getElem?_eq_getElem hk] at this
theorem finU_same {xs ys : List Nat} {n : Nat} (h : ∀ k, k < n → cls (lim ys k) = cls (lim xs k)) : finU ys n = finU xs n := by
  induction n with
  | zero => rfl
  | succ n ih =>
    unfold finU
    rw [h n (by omega), ih fun k hk => h k (by omega)]
theorem turn_one {xs : List Nat} {B : Nat → Bool} {n r c : Nat} (hx : Low 18446744073709551616 xs) (hl : xs.length = r * c) : oneV (turnL xs B n) r c = oneV xs r c ∧ finU (turnL xs B n) (r * c) = finU xs (r * c) := by
  constructor
  · refine mx_congr fun k hk => sumS_congr fun t ht => ?_
    unfold colF
    have : t * c + k < r * c := by
      have := Nat.mul_le_mul_right c (show t + 1 ≤ r from ht)
      rw [Nat.add_mul, Nat.one_mul] at this
      omega
    exact (turn_at hx (by omega)).1
  · exact finU_same fun k hk => (turn_at hx (by omega)).2.1
theorem trl_one {xs : List Nat} {r c : Nat} (hl : xs.length = r * c) (hr : 0 < r) : infV (trl r c xs) c r = oneV xs r c ∧ finU (trl r c xs) (r * c) = finU xs (r * c) := by
  constructor
  · refine mx_congr fun k hk => sumS_congr fun t ht => ?_
    unfold rowF colF
    rw [trl_lim xs ht hk]
  · have e1 := finU_any (trl r c xs)
    have e2 := finU_any xs
    rw [trl_length] at e1
    rw [hl] at e2
    rw [e1, e2]
    have key : (trl r c xs).any (fun x => decide (2 ≤ cls x)) = xs.any (fun x => decide (2 ≤ cls x)) := by
      rw [Bool.eq_iff_iff, List.any_eq_true, List.any_eq_true]
      constructor
      · rintro ⟨x, hx, h2⟩
        unfold trl at hx
        obtain ⟨k, hk, rfl⟩ := List.mem_map.1 hx
        rw [List.mem_range] at hk
        have a1 : k % r < r := Nat.mod_lt _ hr
        have a2 : k / r < c := by rw [Nat.div_lt_iff_lt_mul hr, Nat.mul_comm]; exact hk
        have a3 : k % r * c + k / r < xs.length := by
          have := Nat.mul_le_mul_right c (show k % r + 1 ≤ r from a1)
          rw [Nat.add_mul, Nat.one_mul] at this
          omega
        exact ⟨_, by unfold lim; rw [List.getElem?_eq_getElem a3]; exact List.getElem_mem a3, h2⟩
      · rintro ⟨x, hx, h2⟩
        obtain ⟨k, hk, rfl⟩ := List.getElem_of_mem hx
        have hc : 0 < c := by
          rcases Nat.eq_zero_or_pos c with e | e
          · subst e; omega
          · exact e
        have a1 : k / c < r := by rw [Nat.div_lt_iff_lt_mul hc]; omega
        have a2 : k % c < c := Nat.mod_lt _ hc
        have e := trl_lim xs a1 a2
        rw [show k / c * c + k % c = k by rw [Nat.mul_comm]; exact Nat.div_add_mod k c] at e
        have a3 : k % c * r + k / c < (trl r c xs).length := by rw [trl_length]; exact place_lt a1 a2
        refine ⟨lim (trl r c xs) (k % c * r + k / c), by unfold lim; rw [List.getElem?_eq_getElem a3]; exact List.getElem_mem a3, ?_⟩
        rw [e]
        unfold lim
        rw [List.getElem?_eq_getElem hk]
        exact h2
    rw [key]
theorem OwnK.off {k : IntKind} {t : TypeId} {b : Nat} {W : World} {g n c : Nat} {zs : List Int} (h : OwnK k t b W (.slice (some ⟨g, 0, none⟩) n c) zs) {q i : Nat} (hne : g ≠ q) (u : Value) : OwnK k t b (W.setCell ⟨q, i, none⟩ u) (.slice (some ⟨g, 0, none⟩) n c) zs := by
  unfold OwnK World.ownsRow at h ⊢
  refine ⟨h.1, h.2.imp id ?_⟩
  rintro ⟨g0, cap, cur, h1, h2, h3, h4⟩
  simp only [Value.slice.injEq, Option.some.injEq, Addr.mk.injEq] at h1
  exact ⟨g0, cap, cur, by simp only [Value.slice.injEq, Option.some.injEq, Addr.mk.injEq]; exact h1, h2, (Below.heap_setCell W ⟨q, i, none⟩ u g0 (by rw [← h1.1.1]; exact hne)).trans h3, h4⟩
theorem turn_no {xs : List Nat} {B : Nat → Bool} {k : Nat} (h : B k = false) : turnL xs B (k + 1) = turnL xs B k := by
  unfold turnL
  refine ext_lim (by rw [upd_length, upd_length]) fun i hi => ?_
  rw [upd_length] at hi
  rw [upd_at hi, upd_at hi]
  by_cases e : i = k
  · subst e
    simp [h]
  · have e2 : i < k + 1 ↔ i < k := by omega
    simp only [e2]
theorem turn_yes {xs : List Nat} {B : Nat → Bool} {k : Nat} (h : B k = true) : zn (turnL xs B (k + 1)) = (zn (turnL xs B k)).set k (flip (lim xs k) : Int) := by
  unfold turnL
  rw [upd_succ, zn_set, h, if_pos rfl]
theorem turn_here {xs : List Nat} {B : Nat → Bool} {k : Nat} (h : k < xs.length) : lim (turnL xs B k) k = lim xs k := by
  unfold turnL
  rw [upd_at h, if_neg (by omega)]
theorem flip_xor {b : Nat} (hb : (b : Int) ≤ 18446744073709551615) : bits .xor .u64 (b : Int) 9223372036854775808 = (flip b : Int) := by
  have h := neg_flip (a := b) (by omega)
  rw [h]
  have e := flip_eq (b := b) (by omega)
  have hm : mag b = b % 9223372036854775808 := rfl
  unfold neg6 at *
  by_cases q : (9223372036854775808 : Int) ≤ (b : Int)
  · rw [decide_eq_true q] at e ⊢
    rw [if_pos rfl] at e ⊢
    omega
  · rw [decide_eq_false q] at e ⊢
    rw [if_neg (by decide)] at e ⊢
    omega
/-- a list of bools that comes in -/
def BsIn (w : World) (v : Value) (n : Nat) (B : Nat → Bool) : Prop :=
  ∃ a cap, v = .slice a n cap ∧ (0 < n → ∃ S off, a = some ⟨S, off, none⟩ ∧ S < w.heap.size ∧ ∀ j, j < n → w.cell? ⟨S, off + j, none⟩ = some (.bool (B j)))
theorem own_empty (W : World) : OwnK .u64 32 W.heap.size (W.alloc (.cells #[] 32)) (.slice (some ⟨W.heap.size, 0, none⟩) 0 0) [] := World.ownsRow_lit W #[] 0 (Nat.le_refl _) (by simp [maxLen]) rfl
/-- append(own, xs...) in a region that draws its order, own without numbers -/
theorem step_clone {ops : Array Oper} {o : Oper} {a : Act} {K : Act → World → Prop} {Q : Exit → Act → World → Prop} {E : Prop} {W : World} (hgd : o.guard = none) (s x : Operand)
    (ho : o.op = .call { callee := .builtin .append, args := #[s, x], argTypes := #[22, 22] }) {b : Nat} {v : Value} {xs : List Nat} {S off cap : Nat} (hs : a.eval s = v) (hx : a.eval x = .slice (some ⟨S, off, none⟩) xs.length cap)
    (hA : Arg W (.slice (some ⟨S, off, none⟩) xs.length cap) xs) (hown : OwnK .u64 32 b W v []) (h0 : 0 < xs.length) (hlen : xs.length ≤ 17592186044416) (hb : b ≤ W.heap.size)
    (h : ∀ g' cap w', OwnK .u64 32 b w' (.slice (some ⟨g', 0, none⟩) xs.length cap) (zn xs) → Below b W w' → (v.ownBlock = some g' ∨ g' = W.heap.size) → (∀ g, g < W.heap.size → v.ownBlock ≠ some g → w'.heap[g]? = W.heap[g]?) → W.heap.size ≤ w'.heap.size → K (a.put o.dst (.slice (some ⟨g', 0, none⟩) xs.length cap)) w') :
    if Region.wanted o (yielded ops a.tmps) = true then Oper.wp Try.prog o a W K Q else E := by
  obtain ⟨i0, hi, hz0, hz1, hz2⟩ := info_parts info_u64
  have hown2 : W.ownsRow b 32 1 v 0 [] := hown
  obtain ⟨d, hd, hI⟩ := hA
  obtain ⟨a', c', e', _, hof⟩ := hI.slice
  obtain ⟨o', e2⟩ := hof h0
  simp only [Value.slice.injEq] at e'
  rw [e2] at e'
  obtain rfl : S = d := by simpa using congrArg (fun (q : Option Addr) => (q.map Addr.block).getD 0) e'.1
  refine step_append_lies W hgd s x 22 ho b 32 i0 (.int .u64 0) 1 8 Try.underlying22 hi hz0 hz1 hz2 rfl (by decide) v 0 [] hs hown2 ⟨S, off, none⟩ xs.length cap (valsK .u64 (zn xs)) hx (by rw [valsK_length, zn_length, Nat.mul_one]) ?_ (by intro u hu; obtain ⟨x, _, rfl⟩ := List.mem_map.1 hu; rfl) h0 (by simp only [maxLen]; omega) (by omega) hb _ rfl ?_
  · intro j u hu
    have hj : j < xs.length := by
      rcases Nat.lt_or_ge j xs.length with h | h
      · exact h
      · rw [List.getElem?_eq_none (by rw [valsK_length, zn_length]; exact h)] at hu; cases hu
    rw [valsK_get (by rw [zn_length]; exact hj), zn_at hj] at hu
    have ha : (⟨S, off, none⟩ : Addr).add j = ⟨S, off + j, none⟩ := by unfold Addr.add; split <;> simp_all
    rw [ha, hI.cell hj]
    exact hu
  · intro g' cap w' h1 h2 h3 h4
    rw [Nat.zero_add] at h1 ⊢
    refine h g' cap w' ?_ (below_grown h2 hb fun q hq => (World.ownsRow.lt hown q hq).1) h3 (fun g hg hne => h2.block g hg (fun e => hne e.symm)) h2.size
    unfold OwnK
    rw [zn_length]
    simpa using h1
theorem step_clonem {ops : Array Oper} {o : Oper} {a : Act} {K : Act → World → Prop} {Q : Exit → Act → World → Prop} {E : Prop} {W : World} {m : Nat} (hgd : o.guard = none) (s x : Operand)
    (ho : o.op = .call { callee := .builtin .append, args := #[s, x], argTypes := #[22, 22] }) {b : Nat} {v : Value} {xs : List Nat} {S off cap : Nat} (hs : a.eval s = v) (hx : a.eval x = .slice (some ⟨S, off, none⟩) m cap) (hml : m = xs.length)
    (hA : Arg W (.slice (some ⟨S, off, none⟩) m cap) xs) (hown : OwnK .u64 32 b W v []) (h0 : 0 < m) (hlen : m ≤ 17592186044416) (hb : b ≤ W.heap.size)
    (h : ∀ g' cap w', OwnK .u64 32 b w' (.slice (some ⟨g', 0, none⟩) m cap) (zn xs) → Below b W w' → (v.ownBlock = some g' ∨ g' = W.heap.size) → (∀ g, g < W.heap.size → v.ownBlock ≠ some g → w'.heap[g]? = W.heap[g]?) → W.heap.size ≤ w'.heap.size → K (a.put o.dst (.slice (some ⟨g', 0, none⟩) m cap)) w') :
    if Region.wanted o (yielded ops a.tmps) = true then Oper.wp Try.prog o a W K Q else E := by
  subst hml
  exact step_clone hgd s x ho hs hx hA hown h0 hlen hb h
set_option maxRecDepth 100000 in
set_option maxHeartbeats 16000000 in
theorem normTurns_calls {R C : Int} {a : Option Addr} {m cap n : Nat} {xs : List Nat} {bv : Value} {Bs : Nat → Bool} {w : World} (hA : Arg w (.slice a m cap) xs) (hx : Low 18446744073709551616 xs) (hS : BsIn w bv n Bs) :
    Calls Try.prog 9 #[.agg #[.int .i64 R, .int .i64 C, .slice a m cap], bv] w fun e W' => e = .returned (.bool true) ∧ Below w.heap.size w W' := by
  obtain ⟨sa, sc, rfl, hSB⟩ := hS
  obtain ⟨B, G⟩ := mbox w #[.int .i64 R, .int .i64 C, .slice a m cap] 24 _ rfl
  have hal := l23_alive
  have hmx : m = xs.length := by
    obtain ⟨a', c', e⟩ := hA.slice
    simp only [Value.slice.injEq] at e
    omega
  have c0 := G.cell (i := 0) rfl
  have c1 := G.cell (i := 1) rfl
  have c2 := G.cell (i := 2) rfl
  cases hm : mayM R C m
  · have HT := Lib.hid (fun w => shape_turn_no (R := R) (C := C) (a := a) (m := m) (cap := cap) (w := w) hm)
    clear hm hSB hA hx hmx
    go_enter Try.func9, Try.ntmps9
    go_wp2_with fail
    generalize w.alloc (.cells #[.int .i64 R, .int .i64 C, .slice a m cap] 24) = W0 at *
    refine (hal _).mono ?_
    rintro e w1 ⟨rfl, b1⟩
    replace B := below_both B b1
    replace G := G.behind b1
    have c0 := G.cell (i := 0) rfl
    have c1 := G.cell (i := 1) rfl
    have c2 := G.cell (i := 2) rfl
    go_wp2_with fail
    refine (HT.out _).mono ?_
    rintro e w2 ⟨rfl, b2⟩
    have b3 := bel_new w2 (.cells #[.int .i64 0, .int .i64 0, .slice none 0 0] 24)
    have HB := Lib.hid (below_both B (below_both b2 b3))
    go_wp2
    go_ret
    exact ⟨rfl, HB.out⟩
  · obtain ⟨q1, q2, q3, q4, q5⟩ := mayM_iff.1 hm
    obtain ⟨r, rfl⟩ : ∃ r : Nat, R = r := ⟨R.toNat, by omega⟩
    obtain ⟨c, rfl⟩ : ∃ r : Nat, C = r := ⟨C.toNat, by omega⟩
    have hmn : m = r * c := by rw [← Int.natCast_mul] at q5; omega
    have hrc : r * c ≤ 4096 := by have := Nat.mul_le_mul (show r ≤ 64 by omega) (show c ≤ 64 by omega); omega
    have hm0 : 0 < m := by rw [hmn]; exact Nat.mul_pos (by omega) (by omega)
    have hxl : xs.length = r * c := by omega
    have HT := Lib.hid (fun (W : World) (h : Below w.heap.size w W) => shape_turn (R := r) (C := c) (hA.behind h) hx hm)
    have HO := Lib.hid (fun (W : World) (h : Below w.heap.size w W) => norm_one (R := (r : Int)) (C := (c : Int)) (hA.behind h) hx)
    have HI := Lib.hid (fun (W : World) (b : Option Addr) (cc : Nat) (h : Arg W (.slice b (r * c) cc) (trl r c xs)) => norm_inf (R := (c : Int)) (C := (r : Int)) h (show Low 18446744073709551616 (rowV (r * c) fun k => lim xs (k % r * c + k / r)) from rowV_low fun k _ => by have := lim_lt hx (by decide : 0 < 18446744073709551616) (k % r * c + k / r); omega))
    have HO2 := Lib.hid (fun (W : World) (b : Option Addr) (cc K : Nat) (h : Arg W (.slice b m cc) (turnL xs Bs K)) => norm_one (R := (r : Int)) (C := (c : Int)) h (turn_low hx))
    have t1 := trl_one (r := r) (c := c) (xs := xs) hxl (by omega)
    have hmt : mayM c r (r * c) = true := mayM_iff.2 ⟨by omega, by omega, by omega, by omega, by rw [Int.natCast_mul, Int.mul_comm]⟩
    have ei : finM c r (r * c) (trl r c xs) = finM r c m xs := by
      unfold finM; rw [hmt, hm, if_pos rfl, if_pos rfl, t1.2, hmn]
    have eo : ∀ K, finM r c m (turnL xs Bs K) = finM r c m xs := fun K => by
      unfold finM; rw [hm, if_pos rfl, if_pos rfl, hmn, (turn_one hx hxl).2]
    simp only [Int.toNat_natCast] at HO HI HO2
    rw [ei, t1.1] at HI
    have HO3 : Hid (∀ (W : World) (b : Option Addr) (cc K : Nat) (h : Arg W (.slice b m cc) (turnL xs Bs K)), Calls Try.prog 42 #[.agg #[.int .i64 (r : Int), .int .i64 (c : Int), .slice b m cc]] W fun e W' => e = .returned (.tuple #[.int .u64 (tolR (finM r c m xs) (oneV xs r c) : Int), .int .i64 (tolE (finM r c m xs) (oneV xs r c))]) ∧ Below W.heap.size W W') := Lib.hid (fun W b cc K h => by
      have := HO2.out W b cc K h
      rwa [eo K, (turn_one hx hxl).1] at this)
    have HXL := Lib.hid (fun k => lim_lt hx (by decide : 0 < 18446744073709551616) k)
    have HAX := Lib.hid hA
    have HSB := Lib.hid hSB
    obtain ⟨S, a', c'', hS, e, hcap, HX⟩ := hA.opened
    simp only [Value.slice.injEq] at e
    obtain ⟨rfl, -, rfl⟩ := e
    obtain ⟨off, rfl, _⟩ := HX.out w (Below.refl _ _) 0 (by omega)
    have HMX := Lib.hid (And.intro hmx hmn)
    have hm4 : (m : Int) ≤ 4096 := by omega
    clear HO2 t1 hmt ei eo hm q1 q2 q3 q4 q5 hA hx hSB hcap hxl hmx hmn
    generalize finM r c m xs = F at *
    generalize tolR F (oneV xs r c) = TR at *
    generalize tolE F (oneV xs r c) = TE at *
    go_enter Try.func9, Try.ntmps9
    go_wp2_with fail
    generalize w.alloc (.cells #[.int .i64 (r : Int), .int .i64 (c : Int), .slice (some ⟨S, off, none⟩) m cap] 24) = W0 at *
    refine (hal _).mono ?_
    rintro e w1 ⟨rfl, b1⟩
    replace B := below_both B b1
    replace G := G.behind b1
    have c0 := G.cell (i := 0) rfl
    have c1 := G.cell (i := 1) rfl
    have c2 := G.cell (i := 2) rfl
    clear hal b1
    go_wp2_with fail
    refine (HT.out _ B).mono ?_
    rintro e w2 ⟨bT, cT, rfl, hNT, b2⟩
    obtain ⟨b3, K3⟩ := mbox w2 #[.int .i64 (c : Int), .int .i64 (r : Int), .slice bT (r * c) cT] 24 _ rfl
    have hT := hNT.arg.behind b3
    replace B := below_both B (below_both b2 b3)
    replace G := G.behind (below_both b2 b3)
    have c0 := G.cell (i := 0) rfl
    have c1 := G.cell (i := 1) rfl
    have c2 := G.cell (i := 2) rfl
    clear HT hNT b2 b3
    go_upto_region 6 with (fail)
    generalize w2.alloc (.cells #[.int .i64 (c : Int), .int .i64 (r : Int), .slice bT (r * c) cT] 24) = w4 at *
    clear c0 c1 c2
    have HK : Hid (∀ W, Below w4.heap.size w4 W → W.cell? ⟨w.heap.size, 0, none⟩ = some (.int .i64 (r : Int)) ∧ W.cell? ⟨w.heap.size, 1, none⟩ = some (.int .i64 (c : Int)) ∧ W.cell? ⟨w.heap.size, 2, none⟩ = some (.slice (some ⟨S, off, none⟩) m cap)) := Lib.hid (fun W h => ⟨(G.behind h).cell (i := 0) rfl, (G.behind h).cell (i := 1) rfl, (G.behind h).cell (i := 2) rfl⟩)
    have hgw : w.heap.size < w4.heap.size := G.lt
    have HK3 : Hid (∀ (W : World) (g : Nat) (x y z : Value), w4.heap.size ≤ g → Below w4.heap.size w4 W → (((W.setCell ⟨g, 0, none⟩ x).setCell ⟨g, 1, none⟩ y).setCell ⟨g, 2, none⟩ z).cell? ⟨w.heap.size, 0, none⟩ = some (.int .i64 (r : Int)) ∧ (((W.setCell ⟨g, 0, none⟩ x).setCell ⟨g, 1, none⟩ y).setCell ⟨g, 2, none⟩ z).cell? ⟨w.heap.size, 1, none⟩ = some (.int .i64 (c : Int)) ∧ (((W.setCell ⟨g, 0, none⟩ x).setCell ⟨g, 1, none⟩ y).setCell ⟨g, 2, none⟩ z).cell? ⟨w.heap.size, 2, none⟩ = some (.slice (some ⟨S, off, none⟩) m cap)) := Lib.hid (fun W g x y z hg h => by
      have hne : w.heap.size ≠ g := by omega
      exact ⟨cell_off (cell_off (cell_off (HK.out W h).1 hne) hne) hne, cell_off (cell_off (cell_off (HK.out W h).2.1 hne) hne) hne, cell_off (cell_off (cell_off (HK.out W h).2.2 hne) hne) hne⟩)
    have Br : Below w4.heap.size w4 w4 := Below.refl _ _
    have B0 : Below w4.heap.size w4 ((w4.alloc (.cells #[.int .i64 0, .int .i64 0, .slice none 0 0] 24)).drew) := (Br.alloc (Nat.le_refl _) _).drew
    have B1 : Below w4.heap.size w4 ((w4.alloc (.cells #[] 32)).drew) := (Br.alloc (Nat.le_refl _) _).drew
    have B2 : Below w4.heap.size w4 (((w4.alloc (.cells #[] 32)).alloc (.cells #[.int .i64 0, .int .i64 0, .slice none 0 0] 24)).drew) := ((Br.alloc (Nat.le_refl _) _).alloc (Br.alloc (Nat.le_refl _) _).size _).drew
    have B3 : Below w4.heap.size w4 (((w4.alloc (.cells #[.int .i64 0, .int .i64 0, .slice none 0 0] 24)).alloc (.cells #[] 32)).drew) := ((Br.alloc (Nat.le_refl _) _).alloc (Br.alloc (Nat.le_refl _) _).size _).drew
    have HAW := Lib.hid (fun (W : World) (h : Below w4.heap.size w4 W) => HAX.out.behind (below_both B h))
    have O1 : OwnK .u64 32 w4.heap.size ((w4.alloc (.cells #[] 32)).drew) (.slice (some ⟨w4.heap.size, 0, none⟩) 0 0) [] := (own_empty w4).drew
    have O2 : OwnK .u64 32 w4.heap.size (((w4.alloc (.cells #[] 32)).alloc (.cells #[.int .i64 0, .int .i64 0, .slice none 0 0] 24)).drew) (.slice (some ⟨w4.heap.size, 0, none⟩) 0 0) [] := ((own_empty w4).alloc _).drew
    have O3 : OwnK .u64 32 w4.heap.size (((w4.alloc (.cells #[.int .i64 0, .int .i64 0, .slice none 0 0] 24)).alloc (.cells #[] 32)).drew) (.slice (some ⟨w4.heap.size + 1, 0, none⟩) 0 0) [] := by
      have := own_empty (w4.alloc (.cells #[.int .i64 0, .int .i64 0, .slice none 0 0] 24))
      rw [World.size_alloc] at this
      exact (this.mono (Nat.le_succ _)).drew
    have Z2 : Ms (((w4.alloc (.cells #[] 32)).alloc (.cells #[.int .i64 0, .int .i64 0, .slice none 0 0] 24)).drew) (w4.heap.size + 1) #[.int .i64 0, .int .i64 0, .slice none 0 0] 24 := by
      have := World.alloc_heap_new (w4.alloc (.cells #[] 32)) (.cells #[.int .i64 0, .int .i64 0, .slice none 0 0] 24)
      rw [World.size_alloc] at this
      exact this
    have Z3 : Ms (((w4.alloc (.cells #[.int .i64 0, .int .i64 0, .slice none 0 0] 24)).alloc (.cells #[] 32)).drew) w4.heap.size #[.int .i64 0, .int .i64 0, .slice none 0 0] 24 := (show Ms (w4.alloc (.cells #[.int .i64 0, .int .i64 0, .slice none 0 0] 24)) w4.heap.size #[.int .i64 0, .int .i64 0, .slice none 0 0] 24 from World.alloc_heap_new w4 _).behind (bel_new _ _).drew
    have hx0 : 0 < m := hm0
    have hxn : m ≤ 17592186044416 := by omega
    go_cut [7] from 24 to 32 (fun pv wx => ∃ gB g c8, pv = .pointer (some ⟨gB, 0, none⟩) ∧ Ms wx gB #[.int .i64 (r : Int), .int .i64 (c : Int), .slice (some ⟨g, 0, none⟩) m c8] 24 ∧ OwnK .u64 32 w4.heap.size wx (.slice (some ⟨g, 0, none⟩) m c8) (zn xs) ∧ g ≠ gB ∧ w4.heap.size ≤ gB ∧ Below w4.heap.size w4 wx)
    case first =>
     as_aux_lemma =>
      refine wp_region_held_drew (S := fun W => W.cell? ⟨w.heap.size, 0, none⟩ = some (.int .i64 (r : Int)) ∧ W.cell? ⟨w.heap.size, 1, none⟩ = some (.int .i64 (c : Int)) ∧ W.cell? ⟨w.heap.size, 2, none⟩ = some (.slice (some ⟨S, off, none⟩) m cap)) (by kernel_rfl) ?_ (fun hHeld => ?_)
      · (try dsimp only); first | with_reducible exact HK.out _ Br | with_reducible exact HK.out _ Br.drew | with_reducible exact HK.out _ B1 | with_reducible exact HK.out _ B2 | with_reducible exact HK.out _ B3 | with_reducible exact HK.out _ B0 | with_reducible exact HK.out _ (Br.alloc Br.size _) | exact HK3.out _ _ _ _ _ hsg Br | exact HK3.out _ _ _ _ _ hsg2 (Br.alloc Br.size _)
      refine wpAnyH_take (i := 0) (oi := { dst := some 24, op := _, type := _, pos := _, after := _, guard := _ }) (v := ?v0) rfl (by kernel_rfl) (by kernel_rfl) (by kernel_rfl) (fun _ _ _ h => h) (Or.inl ⟨by rfl, ?hy0⟩) (by assumption) ?rest0
      case hy0 => intro w hSw; (try dsimp only at hSw); go_simp; first | done | with_reducible rfl
      simp only [Act.put, List.setIfInBounds_toArray, List.set_cons_zero, List.set_cons_succ]
      refine wpAnyH_take (i := 1) (oi := { dst := some 25, op := _, type := _, pos := _, after := _, guard := _ }) (v := ?v1) rfl (by kernel_rfl) (by kernel_rfl) (by kernel_rfl) (fun _ _ _ h => h) (Or.inl ⟨by rfl, ?hy1⟩) (by assumption) ?rest1
      case hy1 => intro w hSw; (try dsimp only at hSw); go_simp; first | done | with_reducible rfl
      simp only [Act.put, List.setIfInBounds_toArray, List.set_cons_zero, List.set_cons_succ]
      refine wpAnyH_take (i := 2) (oi := { dst := some 26, op := _, type := _, pos := _, after := _, guard := _ }) (v := ?v2) rfl (by kernel_rfl) (by kernel_rfl) (by kernel_rfl) (fun _ _ _ h => h) (Or.inl ⟨by rfl, ?hy2⟩) (by assumption) ?rest2
      case hy2 => intro w hSw; (try dsimp only at hSw); go_simp; first | done | with_reducible rfl
      simp only [Act.put, List.setIfInBounds_toArray, List.set_cons_zero, List.set_cons_succ]
      refine wpAnyH_take (i := 3) (oi := { dst := some 27, op := _, type := _, pos := _, after := _, guard := _ }) (v := ?v3) rfl (by kernel_rfl) (by kernel_rfl) (by kernel_rfl) (fun _ _ _ h => h) (Or.inl ⟨by rfl, ?hy3⟩) (by assumption) ?rest3
      case hy3 => intro w hSw; (try dsimp only at hSw); go_simp; first | done | with_reducible rfl
      simp only [Act.put, List.setIfInBounds_toArray, List.set_cons_zero, List.set_cons_succ]
      refine wpAnyH_take (i := 5) (oi := { dst := some 29, op := _, type := _, pos := _, after := _, guard := _ }) (v := ?v5) rfl (by kernel_rfl) (by kernel_rfl) (by kernel_rfl) (fun _ _ _ h => h) (Or.inl ⟨by rfl, ?hy5⟩) (by assumption) ?rest5
      case hy5 => intro w hSw; (try dsimp only at hSw); go_simp; first | done | with_reducible rfl
      simp only [Act.put, List.setIfInBounds_toArray, List.set_cons_zero, List.set_cons_succ]
      refine wpAnyH_take (i := 6) (oi := { dst := some 30, op := _, type := _, pos := _, after := _, guard := _ }) (v := ?v6) rfl (by kernel_rfl) (by kernel_rfl) (by kernel_rfl) (fun _ _ _ h => h) (Or.inl ⟨by rfl, ?hy6⟩) (by assumption) ?rest6
      case hy6 => intro w hSw; (try dsimp only at hSw); go_simp; first | done | with_reducible rfl
      simp only [Act.put, List.setIfInBounds_toArray, List.set_cons_zero, List.set_cons_succ]
      refine wpAnyH_ready (rs := [4, 9]) (by kernel_rfl) (by simp) ?_
      refine AllReadyH.cons rfl (fun K hK => ?_) (AllReadyH.cons rfl (fun K hK => ?_) AllReadyH.nil)
      · go_simp
        refine hK.out _ _ ?_ (fun hHeld => ?_)
        · first | with_reducible exact HK.out _ Br | with_reducible exact HK.out _ Br.drew | with_reducible exact HK.out _ B1 | with_reducible exact HK.out _ B2 | with_reducible exact HK.out _ B3 | with_reducible exact HK.out _ B0 | with_reducible exact HK.out _ (Br.alloc Br.size _) | exact HK3.out _ _ _ _ _ hsg Br | exact HK3.out _ _ _ _ _ hsg2 (Br.alloc Br.size _)
        clear hK K
        try simp only [Act.put, List.setIfInBounds_toArray, List.set_cons_zero, List.set_cons_succ]
        refine wpAnyH_ready (rs := [7, 9]) (by kernel_rfl) (by simp) ?_
        refine AllReadyH.cons rfl (fun K hK => ?_) (AllReadyH.cons rfl (fun K hK => ?_) AllReadyH.nil)
        · refine step_clonem (by rfl) _ _ (by rfl) (by rfl) (by rfl) HMX.out.1 (HAW.out _ B1) O1 hx0 hxn B1.size ?_
          intro g' c8 w6 ho6 hb6 hat6 hoth6 hsz6
          replace Br : Below w4.heap.size w4 w6 := B1.trans hb6
          refine hK.out _ _ ?_ (fun hHeld => ?_)
          · first | with_reducible exact HK.out _ Br | with_reducible exact HK.out _ Br.drew | with_reducible exact HK.out _ B1 | with_reducible exact HK.out _ B2 | with_reducible exact HK.out _ B3 | with_reducible exact HK.out _ B0 | with_reducible exact HK.out _ (Br.alloc Br.size _) | exact HK3.out _ _ _ _ _ hsg Br | exact HK3.out _ _ _ _ _ hsg2 (Br.alloc Br.size _)
          clear hK K
          try simp only [Act.put, List.setIfInBounds_toArray, List.set_cons_zero, List.set_cons_succ]
          refine wpAnyH_take (i := 8) (oi := { dst := some 32, op := _, type := _, pos := _, after := _, guard := _ }) (v := ?v8a) rfl (by kernel_rfl) (by kernel_rfl) (by kernel_rfl) (fun _ _ _ h => h) (Or.inl ⟨by rfl, ?hy8a⟩) (by assumption) ?rest8a
          case hy8a => intro w hSw; (try dsimp only at hSw); go_simp; first | done | with_reducible rfl
          simp only [Act.put, List.setIfInBounds_toArray, List.set_cons_zero, List.set_cons_succ]
          refine wpAnyH_ready (rs := [9]) (by kernel_rfl) (by simp) ?_
          refine AllReadyH.cons rfl (fun K hK => ?_) AllReadyH.nil
          go_simp
          have hsg2 : w4.heap.size ≤ w6.heap.size := Br.size
          refine hK.out _ _ ?_ (fun hHeld => ?_)
          · first | with_reducible exact HK.out _ Br | with_reducible exact HK.out _ Br.drew | with_reducible exact HK.out _ B1 | with_reducible exact HK.out _ B2 | with_reducible exact HK.out _ B3 | with_reducible exact HK.out _ B0 | with_reducible exact HK.out _ (Br.alloc Br.size _) | exact HK3.out _ _ _ _ _ hsg Br | exact HK3.out _ _ _ _ _ hsg2 (Br.alloc Br.size _)
          clear hK K
          try simp only [Act.put, List.setIfInBounds_toArray, List.set_cons_zero, List.set_cons_succ]
          refine wpAnyH_ready (rs := [10]) (by kernel_rfl) (by simp) ?_
          refine AllReadyH.cons rfl (fun K hK => ?_) AllReadyH.nil
          go_simp
          refine hK.out _ _ ?_ (fun hHeld => ?_)
          · first | with_reducible exact HK.out _ Br | with_reducible exact HK.out _ Br.drew | with_reducible exact HK.out _ B1 | with_reducible exact HK.out _ B2 | with_reducible exact HK.out _ B3 | with_reducible exact HK.out _ B0 | with_reducible exact HK.out _ (Br.alloc Br.size _) | exact HK3.out _ _ _ _ _ hsg Br | exact HK3.out _ _ _ _ _ hsg2 (Br.alloc Br.size _)
          clear hK K
          try simp only [Act.put, List.setIfInBounds_toArray, List.set_cons_zero, List.set_cons_succ]
          refine wpAnyH_done (by kernel_rfl) ?_ _
          have hlt6 := (World.ownsRow.lt ho6 _ rfl).2
          have hm6 : Ms (w6.alloc (.cells #[.int .i64 (r : Int), .int .i64 (c : Int), .slice (some ⟨g', 0, none⟩) m c8] 24)) w6.heap.size #[.int .i64 (r : Int), .int .i64 (c : Int), .slice (some ⟨g', 0, none⟩) m c8] 24 := World.alloc_heap_new _ _
          have ho7 := ho6.alloc (.cells #[.int .i64 (r : Int), .int .i64 (c : Int), .slice (some ⟨g', 0, none⟩) m c8] 24)
          have hb7 := Br.alloc Br.size (.cells #[.int .i64 (r : Int), .int .i64 (c : Int), .slice (some ⟨g', 0, none⟩) m c8] 24)
          go_wp2_with fail
          go_meet
          exact ⟨_, g', c8, rfl, hm6, ho7, Nat.ne_of_lt hlt6, Br.size, hb7⟩
        · go_simp
          refine hK.out _ _ ?_ (fun hHeld => ?_)
          · first | with_reducible exact HK.out _ Br | with_reducible exact HK.out _ Br.drew | with_reducible exact HK.out _ B1 | with_reducible exact HK.out _ B2 | with_reducible exact HK.out _ B3 | with_reducible exact HK.out _ B0 | with_reducible exact HK.out _ (Br.alloc Br.size _) | exact HK3.out _ _ _ _ _ hsg Br | exact HK3.out _ _ _ _ _ hsg2 (Br.alloc Br.size _)
          clear hK K
          try simp only [Act.put, List.setIfInBounds_toArray, List.set_cons_zero, List.set_cons_succ]
          refine wpAnyH_ready (rs := [7]) (by kernel_rfl) (by simp) ?_
          refine AllReadyH.cons rfl (fun K hK => ?_) AllReadyH.nil
          refine step_clonem (by rfl) _ _ (by rfl) (by rfl) (by rfl) HMX.out.1 (HAW.out _ B2) O2 hx0 hxn B2.size ?_
          intro g' c8 w6 ho6 hb6 hat6 hoth6 hsz6
          replace Br : Below w4.heap.size w4 w6 := B2.trans hb6
          have z6 : Ms w6 (w4.heap.size + 1) #[.int .i64 0, .int .i64 0, .slice none 0 0] 24 := (hoth6 _ Z2.lt (by simp [Value.ownBlock])).trans Z2
          have g0 := z6.cell (i := 0) rfl
          have g1 := z6.cell (i := 1) rfl
          have g2 := z6.cell (i := 2) rfl
          have f0 := z6.f 0
          have f1 := z6.f 1
          have f2 := z6.f 2
          have hsg : w4.heap.size ≤ w4.heap.size + 1 := Nat.le_succ _
          refine hK.out _ _ ?_ (fun hHeld => ?_)
          · first | with_reducible exact HK.out _ Br | with_reducible exact HK.out _ Br.drew | with_reducible exact HK.out _ B1 | with_reducible exact HK.out _ B2 | with_reducible exact HK.out _ B3 | with_reducible exact HK.out _ B0 | with_reducible exact HK.out _ (Br.alloc Br.size _) | exact HK3.out _ _ _ _ _ hsg Br | exact HK3.out _ _ _ _ _ hsg2 (Br.alloc Br.size _)
          clear hK K
          try simp only [Act.put, List.setIfInBounds_toArray, List.set_cons_zero, List.set_cons_succ]
          refine wpAnyH_take (i := 8) (oi := { dst := some 32, op := _, type := _, pos := _, after := _, guard := _ }) (v := ?v8b) rfl (by kernel_rfl) (by kernel_rfl) (by kernel_rfl) (fun _ _ _ h => h) (Or.inl ⟨by rfl, ?hy8b⟩) (by assumption) ?rest8b
          case hy8b => intro w hSw; (try dsimp only at hSw); go_simp; first | done | with_reducible rfl
          simp only [Act.put, List.setIfInBounds_toArray, List.set_cons_zero, List.set_cons_succ]
          refine wpAnyH_ready (rs := [10]) (by kernel_rfl) (by simp) ?_
          refine AllReadyH.cons rfl (fun K hK => ?_) AllReadyH.nil
          go_simp
          refine hK.out _ _ ?_ (fun hHeld => ?_)
          · first | with_reducible exact HK.out _ Br | with_reducible exact HK.out _ Br.drew | with_reducible exact HK.out _ B1 | with_reducible exact HK.out _ B2 | with_reducible exact HK.out _ B3 | with_reducible exact HK.out _ B0 | with_reducible exact HK.out _ (Br.alloc Br.size _) | exact HK3.out _ _ _ _ _ hsg Br | exact HK3.out _ _ _ _ _ hsg2 (Br.alloc Br.size _)
          clear hK K
          try simp only [Act.put, List.setIfInBounds_toArray, List.set_cons_zero, List.set_cons_succ]
          refine wpAnyH_done (by kernel_rfl) ?_ _
          have hne6 : g' ≠ w4.heap.size + 1 := by
            rcases hat6 with h | h
            · have : w4.heap.size = g' := by simpa [Value.ownBlock] using h
              omega
            · have : g' = w4.heap.size + 1 + 1 := by rw [h]; simp [World.drew, World.size_alloc]
              omega
          have hm6 : Ms (((w6.setCell ⟨w4.heap.size + 1, 0, none⟩ (.int .i64 (r : Int))).setCell ⟨w4.heap.size + 1, 1, none⟩ (.int .i64 (c : Int))).setCell ⟨w4.heap.size + 1, 2, none⟩ (.slice (some ⟨g', 0, none⟩) m c8)) (w4.heap.size + 1) #[.int .i64 (r : Int), .int .i64 (c : Int), .slice (some ⟨g', 0, none⟩) m c8] 24 := ((z6.set 0 _).set 1 _).set 2 _
          have ho7 := ((ho6.off (i := 0) hne6 (.int .i64 (r : Int))).off (i := 1) hne6 (.int .i64 (c : Int))).off (i := 2) hne6 (.slice (some ⟨g', 0, none⟩) m c8)
          have hb7 := Br.put3 hsg (.int .i64 (r : Int)) (.int .i64 (c : Int)) (.slice (some ⟨g', 0, none⟩) m c8)
          go_wp2_with fail
          go_meet
          exact ⟨_, g', c8, rfl, hm6, ho7, hne6, hsg, hb7⟩
      · go_simp
        refine hK.out _ _ ?_ (fun hHeld => ?_)
        · first | with_reducible exact HK.out _ Br | with_reducible exact HK.out _ Br.drew | with_reducible exact HK.out _ B1 | with_reducible exact HK.out _ B2 | with_reducible exact HK.out _ B3 | with_reducible exact HK.out _ B0 | with_reducible exact HK.out _ (Br.alloc Br.size _) | exact HK3.out _ _ _ _ _ hsg Br | exact HK3.out _ _ _ _ _ hsg2 (Br.alloc Br.size _)
        clear hK K
        try simp only [Act.put, List.setIfInBounds_toArray, List.set_cons_zero, List.set_cons_succ]
        refine wpAnyH_ready (rs := [4]) (by kernel_rfl) (by simp) ?_
        refine AllReadyH.cons rfl (fun K hK => ?_) AllReadyH.nil
        go_simp
        refine hK.out _ _ ?_ (fun hHeld => ?_)
        · first | with_reducible exact HK.out _ Br | with_reducible exact HK.out _ Br.drew | with_reducible exact HK.out _ B1 | with_reducible exact HK.out _ B2 | with_reducible exact HK.out _ B3 | with_reducible exact HK.out _ B0 | with_reducible exact HK.out _ (Br.alloc Br.size _) | exact HK3.out _ _ _ _ _ hsg Br | exact HK3.out _ _ _ _ _ hsg2 (Br.alloc Br.size _)
        clear hK K
        try simp only [Act.put, List.setIfInBounds_toArray, List.set_cons_zero, List.set_cons_succ]
        refine wpAnyH_ready (rs := [7]) (by kernel_rfl) (by simp) ?_
        refine AllReadyH.cons rfl (fun K hK => ?_) AllReadyH.nil
        refine step_clonem (by rfl) _ _ (by rfl) (by rfl) (by rfl) HMX.out.1 (HAW.out _ B3) O3 hx0 hxn B3.size ?_
        intro g' c8 w6 ho6 hb6 hat6 hoth6 hsz6
        replace Br : Below w4.heap.size w4 w6 := B3.trans hb6
        have z6 : Ms w6 w4.heap.size #[.int .i64 0, .int .i64 0, .slice none 0 0] 24 := (hoth6 _ Z3.lt (by simp [Value.ownBlock])).trans Z3
        have g0 := z6.cell (i := 0) rfl
        have g1 := z6.cell (i := 1) rfl
        have g2 := z6.cell (i := 2) rfl
        have f0 := z6.f 0
        have f1 := z6.f 1
        have f2 := z6.f 2
        have hsg : w4.heap.size ≤ w4.heap.size := Nat.le_refl _
        refine hK.out _ _ ?_ (fun hHeld => ?_)
        · first | with_reducible exact HK.out _ Br | with_reducible exact HK.out _ Br.drew | with_reducible exact HK.out _ B1 | with_reducible exact HK.out _ B2 | with_reducible exact HK.out _ B3 | with_reducible exact HK.out _ B0 | with_reducible exact HK.out _ (Br.alloc Br.size _) | exact HK3.out _ _ _ _ _ hsg Br | exact HK3.out _ _ _ _ _ hsg2 (Br.alloc Br.size _)
        clear hK K
        try simp only [Act.put, List.setIfInBounds_toArray, List.set_cons_zero, List.set_cons_succ]
        refine wpAnyH_take (i := 8) (oi := { dst := some 32, op := _, type := _, pos := _, after := _, guard := _ }) (v := ?v8c) rfl (by kernel_rfl) (by kernel_rfl) (by kernel_rfl) (fun _ _ _ h => h) (Or.inl ⟨by rfl, ?hy8c⟩) (by assumption) ?rest8c
        case hy8c => intro w hSw; (try dsimp only at hSw); go_simp; first | done | with_reducible rfl
        simp only [Act.put, List.setIfInBounds_toArray, List.set_cons_zero, List.set_cons_succ]
        refine wpAnyH_ready (rs := [10]) (by kernel_rfl) (by simp) ?_
        refine AllReadyH.cons rfl (fun K hK => ?_) AllReadyH.nil
        go_simp
        refine hK.out _ _ ?_ (fun hHeld => ?_)
        · first | with_reducible exact HK.out _ Br | with_reducible exact HK.out _ Br.drew | with_reducible exact HK.out _ B1 | with_reducible exact HK.out _ B2 | with_reducible exact HK.out _ B3 | with_reducible exact HK.out _ B0 | with_reducible exact HK.out _ (Br.alloc Br.size _) | exact HK3.out _ _ _ _ _ hsg Br | exact HK3.out _ _ _ _ _ hsg2 (Br.alloc Br.size _)
        clear hK K
        try simp only [Act.put, List.setIfInBounds_toArray, List.set_cons_zero, List.set_cons_succ]
        refine wpAnyH_done (by kernel_rfl) ?_ _
        have hne6 : g' ≠ w4.heap.size := by
          rcases hat6 with h | h
          · have : w4.heap.size + 1 = g' := by simpa [Value.ownBlock] using h
            omega
          · have : g' = w4.heap.size + 1 + 1 := by rw [h]; simp [World.drew, World.size_alloc]
            omega
        have hm6 : Ms (((w6.setCell ⟨w4.heap.size, 0, none⟩ (.int .i64 (r : Int))).setCell ⟨w4.heap.size, 1, none⟩ (.int .i64 (c : Int))).setCell ⟨w4.heap.size, 2, none⟩ (.slice (some ⟨g', 0, none⟩) m c8)) (w4.heap.size) #[.int .i64 (r : Int), .int .i64 (c : Int), .slice (some ⟨g', 0, none⟩) m c8] 24 := ((z6.set 0 _).set 1 _).set 2 _
        have ho7 := ((ho6.off (i := 0) hne6 (.int .i64 (r : Int))).off (i := 1) hne6 (.int .i64 (c : Int))).off (i := 2) hne6 (.slice (some ⟨g', 0, none⟩) m c8)
        have hb7 := Br.put3 hsg (.int .i64 (r : Int)) (.int .i64 (c : Int)) (.slice (some ⟨g', 0, none⟩) m c8)
        go_wp2_with fail
        go_meet
        exact ⟨_, g', c8, rfl, hm6, ho7, hne6, hsg, hb7⟩
    obtain ⟨gB, g, c8, rfl, KB, hO, hgB, hgb2, hB5⟩ := hcut
    clear Br B0 B1 B2 B3 O1 O2 O3 Z2 Z3 HAW HK HK3
    obtain ⟨w5, rfl⟩ : ∃ w5, w5 = wc := ⟨_, rfl⟩
    have hgg : w4.heap.size ≤ g := (World.ownsRow.lt hO _ rfl).1
    have h0 : (zn xs : List Int) = zn (turnL xs Bs 0) := by unfold turnL; rw [upd_zero]
    rw [h0] at hO
    clear h0
    obtain ⟨K, hK⟩ : ∃ K, K = min m n := ⟨_, rfl⟩
    have hKm : K ≤ m := by omega
    have hKn : K ≤ n := by omega
    have hKe : K = m ∨ K = n := by omega
    clear hK
    go_wp2_with fail
    go_loopw [8] (fun i wr => ∃ k : Nat, k ≤ K ∧ i = .int .i64 k ∧ OwnK .u64 32 w4.heap.size wr (.slice (some ⟨g, 0, none⟩) m c8) (zn (turnL xs Bs k)) ∧ Ms wr gB #[.int .i64 (r : Int), .int .i64 (c : Int), .slice (some ⟨g, 0, none⟩) m c8] 24 ∧ Below w4.heap.size w4 wr) (fun i _ => K - (intOf i).toNat)
    case atStart => exact ⟨0, Nat.zero_le _, rfl, hO, KB, hB5⟩
    case round =>
      obtain ⟨k, hk, rfl, ho, kb, hB⟩ := hrel
      have d0 : wr.cell? ⟨gB, 0, none⟩ = some (.int .i64 (r : Int)) := kb.cell (i := 0) rfl
      have d1 : wr.cell? ⟨gB, 1, none⟩ = some (.int .i64 (c : Int)) := kb.cell (i := 1) rfl
      have d2 : wr.cell? ⟨gB, 2, none⟩ = some (.slice (some ⟨g, 0, none⟩) m c8) := kb.cell (i := 2) rfl
      have hBw := below_both B hB
      by_cases hlt : k < K
      · obtain ⟨S2, off2, rfl, hS2, hcb⟩ := HSB.out (by omega)
        have kc : wr.cell? ⟨S2, off2 + k, none⟩ = some (.bool (Bs k)) := (hBw.cell (p := ⟨S2, off2 + k, none⟩) hS2).trans (hcb k (by omega))
        have hkl : k < xs.length := by have := HMX.out.1; omega
        cases hb : Bs k
        · rw [hb] at kc
          rw [← turn_no hb] at ho
          clear hb hcb
          go_wp2
          exact ⟨⟨k + 1, by omega, by simp, ho, kb, hB⟩, by simp [intOf]; omega⟩
        · rw [hb] at kc
          have HS1 := Lib.hid (turn_yes (xs := xs) (B := Bs) (k := k) hb)
          have ko := ho.cell (j := k) (by rw [zn_length]; unfold turnL; rw [upd_length]; exact hkl)
          rw [zn_at (by unfold turnL; rw [upd_length]; exact hkl), turn_here hkl] at ko
          have kf := ho.frozen k
          have hxor := flip_xor (b := lim xs k) (by have := HXL.out k; omega)
          have hkm : (k : Int) < (m : Int) := by omega
          have hkn : (k : Int) < (n : Int) := by omega
          clear hb hcb hkl
          generalize lim xs k = x at *
          generalize flip x = y at *
          go_wp2_with fail
          have kod : wr.drew.cell? ⟨g, k, none⟩ = some (.int .u64 (x : Int)) := ko
          have kfd : wr.drew.frozen? ⟨g, k, none⟩ = false := kf
          as_aux_lemma =>
            refine wp_region_held_drew (S := fun W => W.cell? ⟨gB, 2, none⟩ = some (.slice (some ⟨g, 0, none⟩) m c8)) (by kernel_rfl) ?_ (fun hHeld => ?_)
            · (try dsimp only); first | exact d2 | with_reducible exact hHeld | exact cell_off d2 (fun e => hgB e.symm)
            refine wpAnyH_take (i := 0) (oi := { dst := some 50, op := _, type := _, pos := _, after := _, guard := _ }) (v := ?v0z) rfl (by kernel_rfl) (by kernel_rfl) (by kernel_rfl) (fun _ _ _ h => h) (Or.inl ⟨by rfl, ?hy0z⟩) (by assumption) ?rest0z
            case hy0z => intro w hSw; (try dsimp only at hSw); go_simp; first | done | with_reducible rfl
            simp only [Act.put, List.setIfInBounds_toArray, List.set_cons_zero, List.set_cons_succ]
            refine wpAnyH_take (i := 1) (oi := { dst := some 51, op := _, type := _, pos := _, after := _, guard := _ }) (v := ?v1z) rfl (by kernel_rfl) (by kernel_rfl) (by kernel_rfl) (fun _ _ _ h => h) (Or.inl ⟨by rfl, ?hy1z⟩) (by assumption) ?rest1z
            case hy1z => intro w hSw; (try dsimp only at hSw); go_simp; first | done | with_reducible rfl
            simp only [Act.put, List.setIfInBounds_toArray, List.set_cons_zero, List.set_cons_succ]
            refine wpAnyH_take (i := 2) (oi := { dst := some 52, op := _, type := _, pos := _, after := _, guard := _ }) (v := ?v2z) rfl (by kernel_rfl) (by kernel_rfl) (by kernel_rfl) (fun _ _ _ h => h) (Or.inl ⟨by rfl, ?hy2z⟩) (by assumption) ?rest2z
            case hy2z => intro w hSw; (try dsimp only at hSw); go_simp; first | done | with_reducible rfl
            simp only [Act.put, List.setIfInBounds_toArray, List.set_cons_zero, List.set_cons_succ]
            refine wpAnyH_take (i := 3) (oi := { dst := some 53, op := _, type := _, pos := _, after := _, guard := _ }) (v := ?v3z) rfl (by kernel_rfl) (by kernel_rfl) (by kernel_rfl) (fun _ _ _ h => h) (Or.inl ⟨by rfl, ?hy3z⟩) (by assumption) ?rest3z
            case hy3z => intro w hSw; (try dsimp only at hSw); go_simp; first | done | with_reducible rfl
            simp only [Act.put, List.setIfInBounds_toArray, List.set_cons_zero, List.set_cons_succ]
            refine wpAnyH_take (i := 4) (oi := { dst := some 54, op := _, type := _, pos := _, after := _, guard := _ }) (v := ?v4z) rfl (by kernel_rfl) (by kernel_rfl) (by kernel_rfl) (fun _ _ _ h => h) (Or.inl ⟨by rfl, ?hy4z⟩) (by assumption) ?rest4z
            case hy4z => intro w hSw; (try dsimp only at hSw); go_simp; first | done | with_reducible rfl
            simp only [Act.put, List.setIfInBounds_toArray, List.set_cons_zero, List.set_cons_succ]
            refine wpAnyH_take (i := 5) (oi := { dst := some 55, op := _, type := _, pos := _, after := _, guard := _ }) (v := ?v5z) rfl (by kernel_rfl) (by kernel_rfl) (by kernel_rfl) (fun _ _ _ h => h) (Or.inl ⟨by rfl, ?hy5z⟩) (by assumption) ?rest5z
            case hy5z => intro w hSw; (try dsimp only at hSw); go_simp; first | done | with_reducible rfl
            simp only [Act.put, List.setIfInBounds_toArray, List.set_cons_zero, List.set_cons_succ]
            refine wpAnyH_take (i := 6) (oi := { dst := some 56, op := _, type := _, pos := _, after := _, guard := _ }) (v := ?v6z) rfl (by kernel_rfl) (by kernel_rfl) (by kernel_rfl) (fun _ _ _ h => h) (Or.inl ⟨by rfl, ?hy6z⟩) (by assumption) ?rest6z
            case hy6z => intro w hSw; (try dsimp only at hSw); go_simp; first | done | with_reducible rfl
            simp only [Act.put, List.setIfInBounds_toArray, List.set_cons_zero, List.set_cons_succ]
            refine wpAnyH_ready (rs := [7]) (by kernel_rfl) (by simp) ?_
            refine AllReadyH.cons rfl (fun K hK => ?_) AllReadyH.nil
            go_simp
            refine hK.out _ _ ?_ (fun hHeld => ?_)
            · first | exact d2 | with_reducible exact hHeld | exact cell_off d2 (fun e => hgB e.symm)
            clear hK K
            try simp only [Act.put, List.setIfInBounds_toArray, List.set_cons_zero, List.set_cons_succ]
            refine wpAnyH_take (i := 8) (oi := { dst := some 58, op := _, type := _, pos := _, after := _, guard := _ }) (v := ?v8z) rfl (by kernel_rfl) (by kernel_rfl) (by kernel_rfl) (fun _ _ _ h => h) (Or.inl ⟨by rfl, ?hy8z⟩) (by assumption) ?rest8z
            case hy8z => intro w hSw; (try dsimp only at hSw); go_simp; first | done | with_reducible rfl
            simp only [Act.put, List.setIfInBounds_toArray, List.set_cons_zero, List.set_cons_succ]
            refine wpAnyH_take (i := 9) (oi := { dst := some 59, op := _, type := _, pos := _, after := _, guard := _ }) (v := ?v9z) rfl (by kernel_rfl) (by kernel_rfl) (by kernel_rfl) (fun _ _ _ h => h) (Or.inl ⟨by rfl, ?hy9z⟩) (by assumption) ?rest9z
            case hy9z => intro w hSw; (try dsimp only at hSw); go_simp; first | done | with_reducible rfl
            simp only [Act.put, List.setIfInBounds_toArray, List.set_cons_zero, List.set_cons_succ]
            refine wpAnyH_ready (rs := [10]) (by kernel_rfl) (by simp) ?_
            refine AllReadyH.cons rfl (fun K hK => ?_) AllReadyH.nil
            go_simp
            refine hK.out _ _ ?_ (fun hHeld => ?_)
            · first | exact d2 | with_reducible exact hHeld | exact cell_off d2 (fun e => hgB e.symm)
            clear hK K
            try simp only [Act.put, List.setIfInBounds_toArray, List.set_cons_zero, List.set_cons_succ]
            refine wpAnyH_done (by kernel_rfl) ?_ _
            have ho6 := ho.set k (y : Int)
            rw [← HS1.out] at ho6
            have kb6 := kb.put (p := ⟨g, k, none⟩) (show gB ≠ (⟨g, k, none⟩ : Addr).block from fun e => hgB e.symm) (.int .u64 (y : Int))
            have hB6 := (hB.setCell (p := ⟨g, k, none⟩) hgg (.int .u64 (y : Int))).drew
            clear d0 d1 d2 ko kf kod kfd kc
            go_wp2
            exact ⟨⟨k + 1, by omega, by simp, ho6, kb6, hB6⟩, by simp [intOf]; omega⟩
      · obtain rfl : k = K := by omega
        have hWp : 0 < wr.heap.size := by have := hB.size; omega
        have hY := (new_zn.2 (ho.new hWp)).arg
        have hT2 := hT.behind hB
        have K5 := K3.behind hB
        have G5 := G.behind hB
        have hway : (k < m ∧ k = n) ∨ m ≤ k := by omega
        clear hlt d0 d1 d2 ho
        have c0 := G5.cell (i := 0) rfl
        have c1 := G5.cell (i := 1) rfl
        have c2 := G5.cell (i := 2) rfl
        have d2 : wr.cell? ⟨gB, 2, none⟩ = some (.slice (some ⟨g, 0, none⟩) m c8) := kb.cell (i := 2) rfl
        have HO1 := Lib.hid (HO.out _ hBw)
        have HYH := Lib.hid hY
        have HTH := Lib.hid hT2
        clear hY hT2 HO HSB
        rcases hway with ⟨h1, h2⟩ | h1
        all_goals
          try subst h2
          go_wp2_with fail
          refine HO1.out.mono ?_
          rintro e x1 ⟨rfl, y1⟩
          have e0 := (K5.behind y1).cell (i := 0) rfl
          have e1 := (K5.behind y1).cell (i := 1) rfl
          have e2 := (K5.behind y1).cell (i := 2) rfl
          go_wp2_with fail
          refine (HI.out _ _ _ (HTH.out.behind y1)).mono ?_
          rintro e x2 ⟨rfl, y2⟩
          have y3 := below_both y1 y2
          have d0 := (kb.behind y3).cell (i := 0) rfl
          have d1 := (kb.behind y3).cell (i := 1) rfl
          have d2 := (kb.behind y3).cell (i := 2) rfl
          go_wp2_with fail
          refine (HO3.out _ _ _ _ (HYH.out.behind y3)).mono ?_
          rintro e x3 ⟨rfl, y4⟩
          have HBZ := Lib.hid (below_both hBw (below_both y3 y4))
          go_wp2
          go_ret
          exact ⟨rfl, HBZ.out⟩
end Go.Proofs.Ytjiilechfjkkfaa
