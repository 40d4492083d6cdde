/- ffma's numbers in boxes: what multiply, widen, isNearer, lower, sum, difference keep. -/
import Derived.Test.YtgobclmihppopabPaSpec
import Derived.Test.YtgobclmihppopabFfNum
import Derived.Test.YtgobclmihppopabFfOwn
import Derived.Test.YtgobclmihppopabFmSpec
import Derived.Test.YtgobclmihppopabSmall
import Derived.Lib.Hide
import Derived.IntWalk
namespace Go.Proofs.Ytgobclmihppopab
open Go.RowKit Go.Shelf

/-- block g holds just these cells -/
def Bk (W : World) (g : Nat) (cs : Array Value) (t : TypeId) : Prop := W.heap[g]? = some (.cells cs t (0, 0))
section
variable {W W' : World} {g : Nat} {cs : Array Value} {t : TypeId}
theorem Bk.lt (h : Bk W g cs t) : g < W.heap.size := (Array.getElem?_eq_some_iff.1 h).1
theorem Bk.cell (h : Bk W g cs t) {i : Nat} {v : Value} (hv : cs[i]? = some v) : W.cell? ⟨g, i, none⟩ = some v := by
  rw [cell_of_row W g i _ _ (0, 0) h, hv]
theorem Bk.f (h : Bk W g cs t) (i : Nat) : W.frozen? ⟨g, i, none⟩ = false := by simp [World.frozen?, show W.heap[g]? = _ from h]
theorem Bk.behind (h : Bk W g cs t) (hb : Below W.heap.size W W') : Bk W' g cs t := (hb.block g h.lt).trans h
theorem Bk.new (W : World) (cs : Array Value) (t : TypeId) : Bk (W.alloc (.cells cs t)) W.heap.size cs t := World.alloc_heap_new W _
theorem Bk.put (h : Bk W g cs t) {p : Addr} (hp : g ≠ p.block) (u : Value) : Bk (W.setCell p u) g cs t := (Below.heap_setCell _ _ _ _ hp).trans h
theorem Bk.set (h : Bk W g cs t) (i : Nat) (u : Value) : Bk (W.setCell ⟨g, i, none⟩ u) g (cs.setIfInBounds i u) t := by
  unfold Bk at h ⊢
  simp [World.setCell, Array.getElem?_modify, h]
end
theorem bk_new (w : World) (c : Array Value) (t : TypeId) (W : World) (h : W = w.alloc (.cells c t)) : Below w.heap.size w W ∧ Bk W w.heap.size c t ∧ W.heap.size = w.heap.size + 1 := by
  subst h
  exact ⟨(Below.refl w.heap.size w).alloc (Nat.le_refl _) _, Bk.new w c t, World.size_alloc ..⟩
theorem bk_two (w : World) (c d : Array Value) (t u : TypeId) (W : World) (h : W = (w.alloc (.cells c t)).alloc (.cells d u)) : Below w.heap.size w W ∧ Bk W w.heap.size c t ∧ Bk W (w.heap.size + 1) d u ∧ W.heap.size = w.heap.size + 2 := by
  subst h
  obtain ⟨b1, h1, z1⟩ := bk_new w c t _ rfl
  generalize w.alloc (.cells c t) = X at *
  obtain ⟨b2, h2, z2⟩ := bk_new X d u _ rfl
  rw [z1] at h2
  exact ⟨below_both b1 b2, h1.behind b2, h2, by omega⟩
/-- a number told in two words -/
def wd (s : Bool) (h l : Nat) (x : Int) : Value := .agg #[.bool s, .int .u64 (h : Int), .int .u64 (l : Int), .int .i64 x]
theorem below_set4 {n : Nat} {w W : World} {g : Nat} (h : Below n w W) (hg : n ≤ g) (a b c d : Value) :
    Below n w ((((W.setCell ⟨g, 0, none⟩ a).setCell ⟨g, 1, none⟩ b).setCell ⟨g, 2, none⟩ c).setCell ⟨g, 3, none⟩ d) :=
  (((h.setCell (p := ⟨g, 0, none⟩) hg a).setCell (p := ⟨g, 1, none⟩) hg b).setCell (p := ⟨g, 2, none⟩) hg c).setCell (p := ⟨g, 3, none⟩) hg d
set_option maxRecDepth 100000 in
set_option maxHeartbeats 2000000 in
theorem ff_widen {a : Nat} {w : World} (ha : (a : Int) ≤ 18446744073709551615) (fa : fe a ≠ 2047) :
    Calls Try.prog 56 #[.int .u64 (a : Int)] w fun e W' => e = .returned (.agg #[.bool (neg6 a), .int .u64 0, .int .u64 (sig a : Int), .int .i64 (xpo a)]) ∧ Below w.heap.size w W' := by
  have hA := fun u => psplit_fin1 (w := u) ha fa
  have hb := bk_new w #[.bool false, .int .u64 0, .int .u64 0, .int .i64 0] 74
  clear ha fa
  generalize sig a = m at *
  generalize xpo a = x at *
  generalize neg6 a = s at *
  go_enter Try.func56, Try.ntmps56
  go_wp2_with fail
  obtain ⟨hB, R, hsz⟩ := hb _ rfl
  generalize (w.alloc (.cells #[.bool false, .int .u64 0, .int .u64 0, .int .i64 0] 74)) = W0 at hB R hsz ⊢
  refine (hA _).mono ?_
  rintro e w1 ⟨rfl, rfl⟩
  have r0 := R.cell (i := 0) rfl
  have r1 := R.cell (i := 1) rfl
  have r2 := R.cell (i := 2) rfl
  have r3 := R.cell (i := 3) rfl
  have f0 := R.f 0
  have f1 := R.f 1
  have f2 := R.f 2
  have f3 := R.f 3
  go_wp2
  exact bodyPost_ret (v := .agg #[.bool s, .int .u64 0, .int .u64 (m : Int), .int .i64 x]) (by simp [results, Try.results56, go_sem, r0, r1, r2, r3]) rfl ⟨rfl, below_set4 hB (Nat.le_refl _) _ _ _ _⟩
set_option maxRecDepth 100000 in
set_option maxHeartbeats 4000000 in
theorem ff_multiply {a b : Nat} {w : World} (ha : (a : Int) ≤ 18446744073709551615) (hb : (b : Int) ≤ 18446744073709551615) (fa : fe a ≠ 2047) (fb : fe b ≠ 2047) :
    Calls Try.prog 55 #[.int .u64 (a : Int), .int .u64 (b : Int)] w fun e W' => e = .returned (.agg #[.bool (neg6 a != neg6 b), .int .u64 (mulHi (sig a) (sig b) : Int), .int .u64 (mulLo (sig a) (sig b) : Int), .int .i64 (xpo a + xpo b)]) ∧ Below w.heap.size w W' := by
  have hA := fun u => psplit_fin1 (w := u) ha fa
  have hB := fun u => psplit_fin1 (w := u) hb fb
  have hbx := bk_new w #[.bool false, .int .u64 0, .int .u64 0, .int .i64 0] 74
  have sa := (sig_fits fa).1.2.1
  have sb := (sig_fits fb).1.2.1
  obtain ⟨x1, x2⟩ := xpo_range06 a
  obtain ⟨x3, x4⟩ := xpo_range06 b
  have hm := fun u => mul64_calls (sig a) (sig b) (by omega) (by omega) u
  clear ha hb fa fb sa sb
  generalize mulHi (sig a) (sig b) = H at *
  generalize mulLo (sig a) (sig b) = L at *
  generalize sig a = mA at *
  generalize sig b = mB at *
  generalize xpo a = xA at *
  generalize xpo b = xB at *
  generalize neg6 a = sA at *
  generalize neg6 b = sB at *
  cases sA <;> cases sB
  all_goals
    go_enter Try.func55, Try.ntmps55
    go_wp2_with fail
    obtain ⟨hB0, R, hsz⟩ := hbx _ rfl
    generalize (w.alloc (.cells #[.bool false, .int .u64 0, .int .u64 0, .int .i64 0] 74)) = W0 at hB0 R hsz ⊢
    refine (hA _).mono ?_
    rintro e w1 ⟨rfl, rfl⟩
    go_wp2_with fail
    refine (hB _).mono ?_
    rintro e w1 ⟨rfl, rfl⟩
    go_wp2_with fail
    refine (hm _).mono ?_
    rintro e w1 ⟨rfl, rfl⟩
    have r0 := R.cell (i := 0) rfl
    have r1 := R.cell (i := 1) rfl
    have r2 := R.cell (i := 2) rfl
    have r3 := R.cell (i := 3) rfl
    have f0 := R.f 0
    have f1 := R.f 1
    have f2 := R.f 2
    have f3 := R.f 3
    go_wp2
    exact bodyPost_ret (v := .agg #[.bool _, .int .u64 (H : Int), .int .u64 (L : Int), .int .i64 (xA + xB)]) (by simp [results, Try.results55, go_sem, r0, r1, r2, r3]) rfl ⟨rfl, below_set4 hB0 (Nat.le_refl _) _ _ _ _⟩
/-- which one is nearer -/
def nearer (h l : Nat) (x : Int) (h' l' : Nat) (x' : Int) : Bool := if x ≠ x' then decide (x < x') else if h ≠ h' then decide (h < h') else decide (l < l')
set_option maxRecDepth 100000 in
set_option maxHeartbeats 4000000 in
theorem ff_nearer {s s' : Bool} {h l h' l' : Nat} {x x' : Int} {w : World} :
    Calls Try.prog 79 #[.agg #[.bool s, .int .u64 (h : Int), .int .u64 (l : Int), .int .i64 x], .agg #[.bool s', .int .u64 (h' : Int), .int .u64 (l' : Int), .int .i64 x']] w fun e W' => e = .returned (.bool (nearer h l x h' l' x')) ∧ Below w.heap.size w W' := by
  obtain ⟨y, hy⟩ : ∃ y : Int, (h : Int) = y := ⟨_, rfl⟩
  obtain ⟨y', hy'⟩ : ∃ y : Int, (h' : Int) = y := ⟨_, rfl⟩
  obtain ⟨z, hz⟩ : ∃ y : Int, (l : Int) = y := ⟨_, rfl⟩
  obtain ⟨z', hz'⟩ : ∃ y : Int, (l' : Int) = y := ⟨_, rfl⟩
  have hr : nearer h l x h' l' x' = if x ≠ x' then decide (x < x') else if y ≠ y' then decide (y < y') else decide (z < z') := by
    unfold nearer
    have e1 : (h ≠ h') = (y ≠ y') := by rw [← hy, ← hy']; exact propext ⟨fun h1 h2 => h1 (by omega), fun h1 h2 => h1 (by omega)⟩
    have e2 : decide (h < h') = decide (y < y') := decide_eq_decide.2 (by omega)
    have e3 : decide (l < l') = decide (z < z') := decide_eq_decide.2 (by omega)
    simp only [e1, e2, e3]
  rw [hr, hy, hy', hz, hz']
  clear hr hy hy' hz hz'
  have hbx := bk_two w #[.bool s, .int .u64 y, .int .u64 z, .int .i64 x] #[.bool s', .int .u64 y', .int .u64 z', .int .i64 x'] 74 74
  by_cases hx : x = x'
  · subst hx
    have e1 : ((x : Int) != x) = false := by simp
    rw [if_neg (by simp)]
    by_cases h1 : y = y'
    · subst h1
      have e2 : ((y : Int) != y) = false := by simp
      rw [if_neg (by simp)]
      generalize hd : decide (z < z') = d at *
      go_enter Try.func79, Try.ntmps79
      go_wp2_with fail
      obtain ⟨hB0, G, G2, hsz⟩ := hbx _ rfl
      generalize ((w.alloc (.cells #[.bool s, .int .u64 y, .int .u64 z, .int .i64 x] 74)).alloc (.cells #[.bool s', .int .u64 y, .int .u64 z', .int .i64 x] 74)) = W0 at hB0 G G2 hsz ⊢
      have c1 := G.cell (i := 1) rfl
      have c2 := G.cell (i := 2) rfl
      have c3 := G.cell (i := 3) rfl
      have d1 := G2.cell (i := 1) rfl
      have d2 := G2.cell (i := 2) rfl
      have d3 := G2.cell (i := 3) rfl
      go_wp2
      go_ret
      exact ⟨rfl, hB0⟩
    · have e2 : (y != y') = true := by
        have : (y == y') = false := beq_eq_false_iff_ne.2 h1
        rw [bne, this]; rfl
      rw [if_pos h1]
      clear h1
      generalize hd : decide (y < y') = d at *
      go_enter Try.func79, Try.ntmps79
      go_wp2_with fail
      obtain ⟨hB0, G, G2, hsz⟩ := hbx _ rfl
      generalize ((w.alloc (.cells #[.bool s, .int .u64 y, .int .u64 z, .int .i64 x] 74)).alloc (.cells #[.bool s', .int .u64 y', .int .u64 z', .int .i64 x] 74)) = W0 at hB0 G G2 hsz ⊢
      have c1 := G.cell (i := 1) rfl
      have c2 := G.cell (i := 2) rfl
      have c3 := G.cell (i := 3) rfl
      have d1 := G2.cell (i := 1) rfl
      have d2 := G2.cell (i := 2) rfl
      have d3 := G2.cell (i := 3) rfl
      go_wp2
      go_ret
      exact ⟨rfl, hB0⟩
  · have e1 : (x != x') = true := by
      have : (x == x') = false := beq_eq_false_iff_ne.2 hx
      rw [bne, this]; rfl
    rw [if_pos hx]
    clear hx
    generalize hd : decide (x < x') = d at *
    go_enter Try.func79, Try.ntmps79
    go_wp2_with fail
    obtain ⟨hB0, G, G2, hsz⟩ := hbx _ rfl
    generalize ((w.alloc (.cells #[.bool s, .int .u64 y, .int .u64 z, .int .i64 x] 74)).alloc (.cells #[.bool s', .int .u64 y', .int .u64 z', .int .i64 x'] 74)) = W0 at hB0 G G2 hsz ⊢
    have c1 := G.cell (i := 1) rfl
    have c2 := G.cell (i := 2) rfl
    have c3 := G.cell (i := 3) rfl
    have d1 := G2.cell (i := 1) rfl
    have d2 := G2.cell (i := 2) rfl
    have d3 := G2.cell (i := 3) rfl
    go_wp2
    go_ret
    exact ⟨rfl, hB0⟩
/-- two words shifted down -/
theorem two_down {h l g u : Nat} (hg : g + u = 64) (hh : h < 18446744073709551616) (hl : l < 18446744073709551616) :
    (h * 18446744073709551616 + l) / 2 ^ g = h / 2 ^ g * 18446744073709551616 + (h * 2 ^ u % 18446744073709551616 + l / 2 ^ g) ∧ (h * 18446744073709551616 + l) % 2 ^ g = l % 2 ^ g ∧ (l * 2 ^ u % 18446744073709551616 = 0 ↔ l % 2 ^ g = 0) ∧
      h * 2 ^ u % 18446744073709551616 = h % 2 ^ g * 2 ^ u ∧ h % 2 ^ g * 2 ^ u < 18446744073709551616 := by
  have hB : (18446744073709551616 : Nat) = 2 ^ g * 2 ^ u := by rw [← Nat.pow_add, hg]
  have hp : 0 < 2 ^ g := Nat.two_pow_pos g
  have hq : 0 < 2 ^ u := Nat.two_pow_pos u
  have e1 : h * 2 ^ u % 18446744073709551616 = h % 2 ^ g * 2 ^ u := by rw [hB, Nat.mul_mod_mul_right]
  have e2 : l * 2 ^ u % 18446744073709551616 = l % 2 ^ g * 2 ^ u := by rw [hB, Nat.mul_mod_mul_right]
  have e3 : h * 18446744073709551616 + l = 2 ^ g * (h * 2 ^ u) + l := by rw [hB, Nat.mul_left_comm]
  have e4 : h * 2 ^ u = h / 2 ^ g * 18446744073709551616 + h % 2 ^ g * 2 ^ u := by
    rw [hB, ← Nat.mul_assoc, ← Nat.add_mul, Nat.mul_comm (h / 2 ^ g), Nat.div_add_mod]
  refine ⟨?_, ?_, ?_, e1, ?_⟩
  · rw [e3, Nat.mul_add_div hp, e1, ← Nat.add_assoc, ← e4]
  · rw [e3, Nat.mul_add_mod]
  · rw [e2]
    exact ⟨fun h0 => by rcases Nat.mul_eq_zero.1 h0 with h0 | h0 <;> omega, fun h0 => by rw [h0, Nat.zero_mul]⟩
  · rw [← e1]
    exact Nat.mod_lt _ (by decide)
theorem words_sum {h l h' l' : Nat} (hl : l < 18446744073709551616) (hl' : l' < 18446744073709551616) (hh : h + h' < 18446744073709551615) :
    IntKind.u64.wrap (IntKind.u64.wrap ((h : Int) + h') + (carry64 l l' 0 : Int)) = ((h + h' + carry64 l l' 0 : Nat) : Int) ∧ carry64 l l' 0 ≤ 1 ∧ add64 l l' 0 ≤ 18446744073709551615 ∧
      (h + h' + carry64 l l' 0) * 18446744073709551616 + add64 l l' 0 = h * 18446744073709551616 + l + (h' * 18446744073709551616 + l') := by
  have hc : carry64 l l' 0 ≤ 1 := by unfold carry64; omega
  have hd : carry64 l l' 0 * 18446744073709551616 + add64 l l' 0 = l + l' := by
    unfold carry64 add64
    rw [Nat.add_zero, Nat.mul_comm]
    exact Nat.div_add_mod _ _
  have ha : add64 l l' 0 ≤ 18446744073709551615 := by unfold add64; omega
  generalize carry64 l l' 0 = c at *
  generalize add64 l l' 0 = a at *
  refine ⟨?_, hc, ha, ?_⟩
  · rw [IntKind.wrap_u64, IntKind.wrap_u64]
    omega
  · rw [Nat.add_mul, Nat.add_mul, Nat.add_assoc (h * 18446744073709551616 + h' * 18446744073709551616), hd]
    exact Nat.add_add_add_comm _ _ _ _
set_option maxRecDepth 100000 in
set_option maxHeartbeats 4000000 in
theorem ff_plus {s : Bool} {h l h' l' : Nat} {x : Int} {w : World} (hl : l < 18446744073709551616) (hl' : l' < 18446744073709551616) (hh : h + h' < 18446744073709551615) :
    Calls Try.prog 81 #[.agg #[.bool s, .int .u64 (h : Int), .int .u64 (l : Int), .int .i64 x], .int .u64 (h' : Int), .int .u64 (l' : Int)] w fun e W' => ∃ H L : Nat, e = .returned (.tuple #[.int .u64 (H : Int), .int .u64 (L : Int)]) ∧
      H ≤ 18446744073709551615 ∧ L ≤ 18446744073709551615 ∧ H * 18446744073709551616 + L = h * 18446744073709551616 + l + (h' * 18446744073709551616 + l') ∧ Below w.heap.size w W' := by
  have hbx := bk_new w #[.bool s, .int .u64 (h : Int), .int .u64 (l : Int), .int .i64 x] 74
  obtain ⟨e1, e2, e3, e4⟩ := words_sum hl hl' hh
  have r1 : ∀ u : World, (callFunc 98 #[.int .u64 (l : Int), .int .u64 (l' : Int), .int .u64 0]).run Try.prog u = .ok (.value (.tuple #[.int .u64 (add64 l l' 0 : Int), .int .u64 (carry64 l l' 0 : Int)])) u := add64_run l l' 0 (by omega)
  have hfn : Fence.wide.fn 98 := trivial
  generalize carry64 l l' 0 = c at *
  generalize add64 l l' 0 = a at *
  have HE := Lib.hid e4
  have HC := Lib.hid e2
  have HH := Lib.hid hh
  clear e2 e4 hl hl' hh
  go_enter Try.func81, Try.ntmps81
  go_wp2_with fail
  obtain ⟨hB0, G, hsz⟩ := hbx _ rfl
  generalize (w.alloc (.cells #[.bool s, .int .u64 (h : Int), .int .u64 (l : Int), .int .i64 x] 74)) = W0 at hB0 G hsz ⊢
  have c1 := G.cell (i := 1) rfl
  have c2 := G.cell (i := 2) rfl
  go_wp2
  go_ret2
  exact ⟨h + h' + c, a, by simp only [Array.getD_eq_getD_getElem?]; simp [e1], by have := HH.out; have := HC.out; omega, e3, HE.out, hB0⟩
theorem words_dif {h l h' l' p : Nat} (hp : p ≤ 1) (hh : h < 18446744073709551616) (hl : l < 18446744073709551616) (hh' : h' < 18446744073709551616) (hl' : l' < 18446744073709551616) (hle : h' * 18446744073709551616 + l' + p ≤ h * 18446744073709551616 + l) :
    ∃ H : Nat, IntKind.u64.wrap (IntKind.u64.wrap ((h : Int) - h') - (borrow64 l l' p : Int)) = (H : Int) ∧ H ≤ 18446744073709551615 ∧ borrow64 l l' p ≤ 1 ∧ sub64 l l' p ≤ 18446744073709551615 ∧
      H * 18446744073709551616 + sub64 l l' p + (h' * 18446744073709551616 + l') + p = h * 18446744073709551616 + l := by
  refine ⟨h - h' - borrow64 l l' p, ?_, ?_, ?_, ?_, ?_⟩
  · rw [IntKind.wrap_u64, IntKind.wrap_u64]
    unfold borrow64
    split <;> omega
  · omega
  · unfold borrow64; split <;> omega
  · unfold sub64; omega
  · unfold sub64 borrow64
    split <;> omega
set_option maxRecDepth 100000 in
set_option maxHeartbeats 4000000 in
theorem ff_minus {s more : Bool} {h l h' l' : Nat} {x : Int} {w : World} (hh : h < 18446744073709551616) (hl : l < 18446744073709551616) (hh' : h' < 18446744073709551616) (hl' : l' < 18446744073709551616) (hle : h' * 18446744073709551616 + l' + (if more then 1 else 0) ≤ h * 18446744073709551616 + l) :
    Calls Try.prog 82 #[.agg #[.bool s, .int .u64 (h : Int), .int .u64 (l : Int), .int .i64 x], .int .u64 (h' : Int), .int .u64 (l' : Int), .bool more] w fun e W' => ∃ H L : Nat, e = .returned (.tuple #[.int .u64 (H : Int), .int .u64 (L : Int)]) ∧
      H ≤ 18446744073709551615 ∧ L ≤ 18446744073709551615 ∧ H * 18446744073709551616 + L + (h' * 18446744073709551616 + l') + (if more then 1 else 0) = h * 18446744073709551616 + l ∧ Below w.heap.size w W' := by
  have hbx := bk_new w #[.bool s, .int .u64 (h : Int), .int .u64 (l : Int), .int .i64 x] 74
  obtain ⟨p, hp⟩ : ∃ p : Nat, (if more then 1 else 0) = p := ⟨_, rfl⟩
  have hpd : p ≤ 1 := by rw [← hp]; split <;> omega
  rw [hp] at hle ⊢
  obtain ⟨H, e1, e2, e3, e4, e5⟩ := words_dif hpd hh hl hh' hl' hle
  have r1 : ∀ u : World, (callFunc 99 #[.int .u64 (l : Int), .int .u64 (l' : Int), .int .u64 (p : Int)]).run Try.prog u = .ok (.value (.tuple #[.int .u64 (sub64 l l' p : Int), .int .u64 (borrow64 l l' p : Int)])) u := sub64_run l l' p hpd
  have hfn : Fence.wide.fn 99 := trivial
  generalize borrow64 l l' p = c at *
  generalize sub64 l l' p = a at *
  have HE := Lib.hid e5
  have HP : Hid (p = (if more then 1 else 0)) := Lib.hid hp.symm
  clear e3 e5 hle hpd hp hh hl hh' hl'
  cases more
  · have hpi : (p : Int) = 0 := by
      have h0 : p = 0 := by rw [HP.out]; rfl
      rw [h0]; rfl
    rw [hpi] at r1
    clear hpi HP
    go_enter Try.func82, Try.ntmps82
    go_wp2_with fail
    obtain ⟨hB0, G, hsz⟩ := hbx _ rfl
    generalize (w.alloc (.cells #[.bool s, .int .u64 (h : Int), .int .u64 (l : Int), .int .i64 x] 74)) = W0 at hB0 G hsz ⊢
    have c1 := G.cell (i := 1) rfl
    have c2 := G.cell (i := 2) rfl
    go_wp2
    go_ret2
    exact ⟨H, a, by simp only [Array.getD_eq_getD_getElem?]; simp [e1], e2, e4, HE.out, hB0⟩
  · have hpi : (p : Int) = 1 := by
      have h0 : p = 1 := by rw [HP.out]; rfl
      rw [h0]; rfl
    rw [hpi] at r1
    clear hpi HP
    go_enter Try.func82, Try.ntmps82
    go_wp2_with fail
    obtain ⟨hB0, G, hsz⟩ := hbx _ rfl
    generalize (w.alloc (.cells #[.bool s, .int .u64 (h : Int), .int .u64 (l : Int), .int .i64 x] 74)) = W0 at hB0 G hsz ⊢
    have c1 := G.cell (i := 1) rfl
    have c2 := G.cell (i := 2) rfl
    go_wp2
    go_ret2
    exact ⟨H, a, by simp only [Array.getD_eq_getD_getElem?]; simp [e1], e2, e4, HE.out, hB0⟩
end Go.Proofs.Ytgobclmihppopab
