/- natdiv.Sqrt: the greatest number whose square is at most another one. -/
import Derived.Test.YtgobclmihppopaaDivMod
import Derived.Deep.RegionHeld3
import Derived.Deep.DrawnRows
namespace Go.Proofs.Ytgobclmihppopaa
open Go.RowKit Go.Shelf

attribute [local go_sem] Oper.semAt_some

/-- a list that is read stays as it is, whatever the loop's own blocks do -/
theorem steady_rd {B₀ S : Nat} {v : Value} {xs : List Nat} : Steady B₀ (fun W => S < W.heap.size ∧ RdAt S W v xs) := fun _ W W' row ⟨hl, hr⟩ hg hrow => by
  refine ⟨Nat.lt_of_lt_of_le hl hg.size, ?_⟩
  rcases hr with ⟨e, rfl⟩ | ⟨off, cap, rfl, hc, hcell⟩
  · exact .inl ⟨e, rfl⟩
  · by_cases h0 : xs.length = 0
    · exact .inr ⟨off, cap, rfl, hc, fun j hj => by omega⟩
    · have h1 := hcell 0 (by omega)
      obtain ⟨o, ho, hoc⟩ := cells_of_cell h1
      dsimp only at ho
      have hk : W'.heap[S]? = W.heap[S]? := hg.block S hl (fun e => by
        obtain ⟨_, o', ho', hc'⟩ := hrow S e.symm
        rw [ho] at ho'
        cases ho'
        rw [hoc] at hc'
        cases hc')
      exact RdAt.kept (.inr ⟨off, cap, rfl, hc, hcell⟩) hk
theorem steady_new {B₀ n : Nat} {v : Value} {xs : List Nat} : Steady B₀ (fun W => New n W v xs) := fun u W W' row ⟨S, h1, h2, h3⟩ hg hrow => by
  obtain ⟨k1, k2⟩ := steady_rd u W W' row ⟨h2, h1⟩ hg hrow
  exact ⟨S, k2, k1, h3⟩
theorem steady_num {B₀ : Nat} {v : Value} {N k : Nat} : Steady B₀ (fun W => Num W v N k) := fun u W W' row ⟨xs, ⟨b, h1, h2⟩, h3⟩ hg hrow => by
  obtain ⟨k1, k2⟩ := steady_rd u W W' row ⟨h1, h2⟩ hg hrow
  exact ⟨xs, ⟨b, k1, k2⟩, h3⟩
theorem New.put_ {n : Nat} {W : World} {v : Value} {xs : List Nat} (h : New n W v xs) {p : Addr} (hp : p.block < n) (u : Value) : New n (W.setCell p u) v xs := by
  obtain ⟨S, h1, h2, h3⟩ := h
  have hz : (W.setCell p u).heap.size = W.heap.size := by simp [World.setCell]
  refine ⟨S, ?_, by omega, h3⟩
  rcases h3 with rfl | h3
  · rcases h1 with h1 | ⟨_, _, e, _⟩
    · exact .inl h1
    · cases e
  · exact h1.kept (Below.heap_setCell _ _ _ _ (by omega))
theorem New.keep_ {n : Nat} {W W' : World} {v : Value} {xs : List Nat} (h : New n W v xs) (hb : Below W.heap.size W W') : New n W' v xs := h.behind hb

theorem New.away {n D : Nat} {W : World} {v : Value} {xs : List Nat} {o o' : Obj} (h : New n W v xs) (hD : W.heap[D]? = some o) (ho : o.isCells = false := by rfl) : New n (W.putObj D o') v xs := by
  obtain ⟨S, h1, h2, h3⟩ := h
  refine ⟨S, ?_, by simp; omega, h3⟩
  by_cases hS : S = D
  · subst hS
    rcases h1 with h1 | ⟨off, cap, e, hc, hcell⟩
    · exact .inl h1
    · by_cases h0 : xs.length = 0
      · exact .inr ⟨off, cap, e, hc, fun j hj => by omega⟩
      · obtain ⟨o2, ho2, hoc⟩ := cells_of_cell (hcell 0 (by omega))
        dsimp only at ho2
        rw [hD] at ho2
        cases ho2
        rw [ho] at hoc
        cases hoc
  · exact h1.kept (World.putObj_heap_other hS)
theorem steady_size {B₀ n : Nat} : Steady B₀ (fun W => n ≤ W.heap.size) := fun _ _ _ _ h hg _ => Nat.le_trans h hg.size
theorem _root_.Go.Boxed.behind_ {W W' : World} {B : Nat} {t : TypeId} {v : Value} (h : Boxed W B t v) (hb : Below W.heap.size W W') : Boxed W' B t v := (hb.block B h.lt).trans h
/-- what holds all the while -/
def sqJ (X i : Nat) (a : Option Addr) (len cap : Nat) (w : World) (W : World) : Prop := (Boxed W (w.heap.size + 1) 29 (.slice a len cap) ∧ Num W (.slice a len cap) X i ∧ Below w.heap.size w W) ∧ (∃ v, Boxed W w.heap.size 29 v) ∧ w.heap.size + 2 ≤ W.heap.size
theorem sqJ_steady (X i : Nat) (a : Option Addr) (len cap : Nat) (w : World) {B₀ : Nat} (h : w.heap.size ≤ B₀) : Steady B₀ (sqJ X i a len cap w) :=
  (steady_boxed.and (steady_num.and (steady_below h (Nat.le_refl _)))).and ((Steady.ex_ fun _ => steady_boxed).and steady_size)
theorem sqJ.behind {X i : Nat} {a : Option Addr} {len cap : Nat} {w W W' : World} (h : sqJ X i a len cap w W) (hb : Below W.heap.size W W') : sqJ X i a len cap w W' := by
  obtain ⟨⟨h1, h2, h3⟩, ⟨v, h4⟩, h5⟩ := h
  exact ⟨⟨h1.behind_ hb, h2.behind hb, h3.trans (hb.mono h3.size)⟩, ⟨v, h4.behind_ hb⟩, Nat.le_trans h5 hb.size⟩
/-- the root so far lies in its box -/
def sqK (w : World) (v : Value) (_G : Nat) (W : World) : Prop := Boxed W w.heap.size 29 v
/-- the root, at the end -/
def sqE (X i : Nat) (a : Option Addr) (len cap : Nat) (w : World) (W : World) : Prop := ∃ s : Value × Nat, (Boxed W w.heap.size 29 s.1 ∧ New (w.heap.size + 2) W s.1 (digs 18446744073709551616 s.2) ∧ (s.2 * s.2 ≤ X ∧ X < (s.2 + 1) * (s.2 + 1))) ∧ sqJ X i a len cap w W
theorem sqE_steady (X i : Nat) (a : Option Addr) (len cap : Nat) (w : World) {B₀ : Nat} (h : w.heap.size ≤ B₀) : Steady B₀ (sqE X i a len cap w) :=
  Steady.ex_ fun s => (steady_boxed.and (steady_new.and (steady_pure (p := s.2 * s.2 ≤ X ∧ X < (s.2 + 1) * (s.2 + 1))))).and (sqJ_steady X i a len cap w h)
def sqA (X i : Nat) (a : Option Addr) (len cap : Nat) (w : World) (s : Value × Nat) (W : World) : Prop := sqJ X i a len cap w W ∧ New (w.heap.size + 2) W s.1 (digs 18446744073709551616 s.2) ∧ sqK w s.1 s.2 W
def sqB (X i : Nat) (a : Option Addr) (len cap : Nat) (w : World) (s : Value × Nat) (W : World) : Prop := sqJ X i a len cap w W ∧ New (w.heap.size + 2) W s.1 (digs 18446744073709551616 s.2)

set_option maxRecDepth 100000 in
set_option maxHeartbeats 4000000 in
theorem sqrt_in (n : Nat) (hn : 4 ≤ n) (va : Value) (X i : Nat) (hi : i ≤ 1099511627776) (w : World) (hA : Num w va X i) :
    CallsIn Fence.wide n Try.prog 73 #[va] w fun e W' => ∃ q r G, e = .returned (.tuple #[q, r]) ∧ (G * G ≤ X ∧ X < (G + 1) * (G + 1)) ∧ New w.heap.size W' q (digs 18446744073709551616 G) ∧ New w.heap.size W' r (digs 18446744073709551616 (X - G * G)) ∧ Below w.heap.size w W' := by
  have h1 : 1 ≤ n := by omega
  have hmx := follows
  have hXl := hA.lt
  obtain ⟨a, len, cap, rfl⟩ := hA.slice
  refine callsIn_of_wp_marks Try.func73 rfl trivial ?_ rfl
  simp only [Try.ntmps73, List.size_toArray, List.length_cons, List.length_nil, Nat.reduceAdd, Nat.reduceSub, Array.replicate_succ, Array.replicate_zero, List.push_toArray, List.append_toArray, List.nil_append, List.cons_append]
  gi_wp2_with (refine ⟨trivial, ?_⟩; gi_at_call 76; refine (guesses_in Fence.wide (n - 1) trivial rfl _ _ _ _).mono ?_; rintro e w' ⟨rfl, rfl⟩)
  have b1 := (Boxed.new w 29 (.slice none 0 0)).alloc (.cells #[.slice a len cap] 29)
  have b2 := Boxed.new (w.alloc (.cells #[.slice none 0 0] 29)) 29 (.slice a len cap)
  have hB0 : Below w.heap.size w ((w.alloc (.cells #[.slice none 0 0] 29)).alloc (.cells #[.slice a len cap] 29)) := ((Below.refl _ w).alloc (Nat.le_refl _) _).alloc (by simp) _
  simp only [World.size_alloc] at b2
  have hW0 : ((w.alloc (.cells #[.slice none 0 0] 29)).alloc (.cells #[.slice a len cap] 29)).heap.size = w.heap.size + 1 + 1 := by simp
  have hA0 := hA.behind hB0
  generalize (w.alloc (.cells #[.slice none 0 0] 29)).alloc (.cells #[.slice a len cap] 29) = W0 at *
  have hJ0 : sqJ X i a len cap w W0 := ⟨⟨b2, hA0, hB0⟩, ⟨_, b1⟩, by omega⟩
  have hww : w.heap.size ≤ W0.heap.size := by omega
  refine wpIn_range (σ := Value × Nat) rfl h1 (gf := 79) (lb := #[.pointer (some ⟨w.heap.size + 1, 0, none⟩)]) rfl trivial (enters_of Try.func79 (by kernel_rfl) rfl)
    (encs := fun s => #[s.1]) (fun _ => rfl) (fun W => sqJ X i a len cap w W ∧ Boxed W w.heap.size 29 (.slice none 0 0)) (sqA X i a len cap w) (sqB X i a len cap w) (sqE X i a len cap w) (fun _ _ => False)
    ((sqJ_steady X i a len cap w hww).and steady_boxed) (fun _ => (sqJ_steady X i a len cap w hww).and (steady_new.and steady_boxed)) (fun _ => (sqJ_steady X i a len cap w hww).and steady_new) (sqE_steady X i a len cap w hww) (fun _ => steady_pure) ⟨hJ0, b1⟩ ?seq ?a1 ?assign ?body ?done ?stop
  case seq =>
    intro l Xp Xz W hl hXs hI0 hX hY
    obtain ⟨hJ, hb⟩ := hI0
    have hkeep : ∀ U V, Xp U → Below U.heap.size U V → Xp V := fun U V h hb => hXs U V h ⟨hb.size, fun i o _ ho _ => (hb.block i (Array.getElem?_eq_some_iff.1 ho).1).trans ho⟩
    refine (guesses_st (n - 1) (by omega) l (w.heap.size + 1) (w.heap.size + 2) X i a len cap hi (sqJ X i a len cap w) (sqK w) Xp (fun _ _ => False) Xz (fun W h => h.1.1.cell) (fun W h => h.1.2.1) (fun W W' h hb => h.behind hb) (fun v G W W' h hb => Boxed.behind_ (show Boxed W w.heap.size _ v from h) hb) hkeep (fun W h => h.2.2) (fun v G U hJ hN _ _ hx => hY (v, G) U ⟨hJ, hN⟩ hx) W hJ hX).mono ?_
    rintro e V ⟨hv, (⟨hg, hJV, hXV⟩ | h)⟩
    · refine ⟨hv, .inl ⟨?_, hXV⟩⟩
      rcases hg with ⟨rfl, hb1⟩ | ⟨v, G, hK, hN, h3, h4⟩
      · exact ⟨(.slice none 0 0, 0), ⟨hb.behind_ hb1, ⟨0, by rw [digs_zero]; exact .inl ⟨⟨_, _, rfl⟩, rfl⟩, by have := hJV.2.2; omega, .inl rfl⟩, by simp⟩, hJV⟩
      · exact ⟨(v, G), ⟨hK, hN, h3, h4⟩, hJV⟩
    · exact ⟨hv, .inr h⟩
  case assign =>
    intro l s W K hK
    gi_wp2
    exact hK
  case body =>
    rintro l ⟨v, G⟩ W hl ⟨⟨⟨c1, c2, c3⟩, ⟨u, c4⟩, c5⟩, hN⟩
    dsimp only at *
    obtain ⟨ra, rl, rc, rfl⟩ : ∃ a l c, v = .slice a l c := by
      obtain ⟨a, c, e, _⟩ := hN.slice
      exact ⟨a, _, c, e⟩
    have k4 := c4.cell
    have g4 := c4.frozen
    have d1 := c1.far (p := ⟨w.heap.size, 0, none⟩) (by (try dsimp only); omega) (.slice ra rl rc)
    have d4 := c4.set (.slice ra rl rc)
    have d3 := c3.setCell (p := ⟨w.heap.size, 0, none⟩) (Nat.le_refl _) (.slice ra rl rc)
    have dN := hN.put_ (p := ⟨w.heap.size, 0, none⟩) (by (try dsimp only); omega) (.slice ra rl rc)
    have d2 : Num (W.setCell ⟨w.heap.size, 0, none⟩ (.slice ra rl rc)) (.slice a len cap) X i := (hA.behind d3)
    have dz : w.heap.size + 2 ≤ (W.setCell ⟨w.heap.size, 0, none⟩ (.slice ra rl rc)).heap.size := by simpa [World.setCell] using c5
    gi_wp2
    exact ⟨(KeepsOthers.setCell _ _ _).from _, ⟨⟨d1, d2, d3⟩, ⟨_, d4⟩, dz⟩, dN, d4⟩
  case done =>
    rintro D W hD ⟨⟨v, G⟩, ⟨hb, hN, hG⟩, ⟨⟨c1, c2, c3⟩, _, c5⟩⟩ hK
    dsimp only at *
    obtain ⟨ra, rl, rc, rfl⟩ : ∃ a l c, v = .slice a l c := by
      obtain ⟨a, c, e, _⟩ := hN.slice
      exact ⟨a, _, c, e⟩
    gi_wp2
    refine wpIn_wide.2 ?_
    have hGl : G < 18446744073709551616 ^ i := by
      refine Nat.lt_of_le_of_lt ?_ hXl
      rcases Nat.eq_zero_or_pos G with h0 | h0
      · omega
      · exact Nat.le_trans (Nat.le_mul_of_pos_left G h0) hG.1
    have hds : Hid (dist X (G * G) = X - G * G) := Lib.hid (dist_ge hG.1)
    have HG := Lib.hid hG
    have bd := below_drewW W
    have hv := (hN.num hGl).behind bd
    have hx := c2.behind bd
    have hb1 := hb.behind_ bd
    have hN1 := hN.behind bd
    have hk1 : Hid (W.drew.heap[D]? = some (.deferred (some []))) := Lib.hid hK
    have hcc := hb1.cell
    clear hG hK
    have B0 := c3.trans (bd.mono c3.size)
    have hDW : D < W.drew.heap.size := (Array.getElem?_eq_some_iff.1 hk1.out).1
    have hrd : w.heap.size + 2 ≤ W.drew.heap.size := c5
    go_region_held3 (fun w' => w'.cell? ⟨w.heap.size, 0, none⟩ = some (.slice ra rl rc)) (first | exact hb1.cell | go_keep)
      (first
        | (have _ := B1; go_at_call 77; (with_reducible refine (sub_num hx u2 (by omega) (by omega)).mono ?_); rintro e w2 ⟨r, rfl, -, nr, b2⟩; have hb1 := hb1.behind_ b2; have hN1 := hN1.behind b2; have B2 := below_both B1 b2; have hk2 : Hid (w2.heap[D]? = some (.deferred (some []))) := Lib.hid ((b2.block D hD1).trans hk1.out); clear b2)
        | (go_at_call 78; (with_reducible refine (mul_num hv hv (by omega)).mono ?_); rintro e w1 ⟨v2, rfl, u2, -, b1⟩; have hx := hx.behind b1; have hb1 := hb1.behind_ b1; have hN1 := hN1.behind b1; have B1 := below_both B0 b1; have hk1 : Hid (w1.heap[D]? = some (.deferred (some []))) := Lib.hid ((b1.block D hDW).trans hk1.out); have hD1 := Nat.lt_of_lt_of_le hDW b1.size; have hz1 := b1.size; clear b1))
    gi_wp2
    refine ⟨by simp, .inl ⟨_, _, rfl, run_takeDeferred hk2.out, ?_⟩⟩
    rw [hds.out] at nr
    have hN2 := fun o' => (hN1.from_ (n' := w.heap.size) (by omega)).away (o' := o') hk2.out
    have hr2 := fun o' => (nr.from_ (n' := w.heap.size) (by omega)).away (o' := o') hk2.out
    exact ⟨_, results_tmp2 rfl _ _ _, .slice ra rl rc, r, G, rfl, HG.out, hN2 _, hr2 _, B2.trans (belowK_b (w := w) (Nat.le_refl _) w2 D _ _ (by omega) hk2.out rfl rfl)⟩
  case stop =>
    rintro D c W _ h _
    exact h.elim
theorem sqrt_num {va : Value} {X i : Nat} {w : World} (hA : Num w va X i) (hi : i ≤ 1099511627776) :
    Calls Try.prog 73 #[va] w fun e W' => ∃ q r G, e = .returned (.tuple #[q, r]) ∧ (G * G ≤ X ∧ X < (G + 1) * (G + 1)) ∧ New w.heap.size W' q (digs 18446744073709551616 G) ∧ New w.heap.size W' r (digs 18446744073709551616 (X - G * G)) ∧ Below w.heap.size w W' :=
  callsIn_wide.1 (sqrt_in 4 (Nat.le_refl _) va X i hi w hA)
end Go.Proofs.Ytgobclmihppopaa

/- vernierlaw02.alive. -/
namespace Go.Proofs.Ytgobclmihppopaa
open Go.RowKit Go.Shelf

theorem New.word {n : Nat} {W : World} {v : Value} {x : Nat} (h : New n W v [x]) : ∃ S off cap, v = .slice (some ⟨S, off, none⟩) 1 cap ∧ W.cell? ⟨S, off, none⟩ = some (.int .u64 x) := by
  obtain ⟨S, h1, _⟩ := h
  rcases h1 with ⟨_, h⟩ | ⟨off, c, e, hl, hc⟩
  · cases h
  · exact ⟨S, off, c, e, hc 0 (by simp)⟩
end Go.Proofs.Ytgobclmihppopaa
