/- A range over a function whose iterator and body share a state: the iterator may write memory between the rounds, the body may write what the iterator reads. What holds ahead of each call of yield (B), behind it (A), and where the body is left (Z), is said for each state s. -/
import Derived.Test.YtjapilpjahhimaaNum
import Derived.Test.YtjapilpjahhimaaBits
import Derived.Laws.Bits64b
namespace Go.Proofs.Ytjapilpjahhimaa
open Go.RowKit Go.Shelf

/-- how a round's body may be left -/
def stPost (B₀ : Nat) (A : World → Prop) (Z : Code → World → Prop) (W : World) : Exit → Act → World → Prop
  | .normal, _, W' => KeepsFrom B₀ W W' ∧ A W'
  | .ret, _, W' => KeepsFrom B₀ W W' ∧ Z .ret W'
  | .exit id, _, W' => KeepsFrom B₀ W W' ∧ Z (.exit id) W'
  | .goto t, _, W' => KeepsFrom B₀ W W' ∧ Z (.goto t) W'
  | .panic _, _, _ => False
  | .outgrown, _, _ => False
/-- what the loop's own blocks (from B₀ on, none of them cells) do not touch -/
def Steady (B₀ : Nat) (I : World → Prop) : Prop := OwnFrom B₀ (fun (_ : Unit) W => I W)
theorem Steady.put {B₀ : Nat} {I : World → Prop} (h : Steady B₀ I) {W : World} {l : Nat} {o : Obj} (o' : Obj) (hs : I W) (hB : B₀ ≤ l) (hl : W.heap[l]? = some o) (ho : o.isCells = false) : I (W.putObj l o') :=
  OwnFrom.putObj (s := ()) h o' hs hB hl ho
theorem Steady.alloc {B₀ : Nat} {I : World → Prop} (h : Steady B₀ I) {W : World} (o : Obj) (hs : I W) : I (W.alloc o) := OwnFrom.alloc (s := ()) h o hs
theorem Steady.and {B₀ : Nat} {I J : World → Prop} (h : Steady B₀ I) (k : Steady B₀ J) : Steady B₀ (fun W => I W ∧ J W) := OwnFrom.and h k
theorem steady_below {B₀ B : Nat} {w₀ : World} (hB : B ≤ B₀) (hw : B ≤ w₀.heap.size) : Steady B₀ (fun W => Below B w₀ W) := fun _ _ _ row hs hg hr =>
  ⟨hg.os.trans hs.os, hg.tape.trans hs.tape, hg.output.trans hs.output, Nat.le_trans hs.size hg.size, fun k hk =>
    (hg.block k (Nat.lt_of_lt_of_le (Nat.lt_of_lt_of_le hk hw) hs.size) (fun e => by have := (hr k e.symm).1; omega)).trans (hs.block k hk)⟩
/-- a block of cells stays -/
theorem steady_block {B₀ : Nat} {k : Nat} {cs : Array Value} {t : TypeId} {z : Nat × Nat} : Steady B₀ (fun W => W.heap[k]? = some (.cells cs t z)) := fun _ W W' row hs hg hr => by
  refine (hg.block k (Array.getElem?_eq_some_iff.1 hs).1 (fun e => ?_)).trans hs
  obtain ⟨_, o, ho, hc⟩ := hr k e.symm
  rw [hs] at ho
  cases ho
  cases hc
theorem steady_row {B₀ S : Nat} {k : IntKind} {t : TypeId} {s : List Nat} : Steady B₀ (fun W => Row k t W S s) := steady_block
theorem steady_boxed {B₀ b : Nat} {t : TypeId} {v : Value} : Steady B₀ (fun W => Boxed W b t v) := fun u W W' row hs hg hr => boxed_own (β := Unit) b t (fun _ => v) u W W' row hs hg (fun r e => (hr r e).2)
theorem steady_pure {B₀ : Nat} {p : Prop} : Steady B₀ (fun _ => p) := fun _ _ _ _ hs _ _ => hs
theorem steady_off {S B₀ : Nat} {w₀ : World} (hB : w₀.heap.size ≤ B₀) : Steady B₀ (fun W => Off S w₀ W) := fun u W W' row hs hg hr => ownFrom_off (β := Unit) hB u W W' row hs hg hr
/-- a block below the loop's own: it lies as it lay in one world -/
theorem steady_old {B₀ k : Nat} {w₀ : World} (hk : k < B₀) (hk2 : k < w₀.heap.size) : Steady B₀ (fun W => W.heap[k]? = w₀.heap[k]?) := fun _ W W' row hs hg hr => by
  have hl : k < W.heap.size := by
    rw [Array.getElem?_eq_getElem hk2] at hs
    exact (Array.getElem?_eq_some_iff.1 hs).1
  exact (hg.block k hl (fun e => by have := (hr k e.symm).1; omega)).trans hs

theorem wpIn_range {σ : Type} {F : Fence} {n : Nat} {P : Program} {g : Operand} {ps : Array Tmp} {assign body : Code} {Q : Exit → Act → World → Prop} {a : Act} {w : World}
    (hro : F.round = none) (h1 : 1 ≤ n) {gf : Nat} {lb : Array Value} (hg : a.eval g = .func (.func gf) #[] lb) (hFg : F.fn gf) (eg : ∀ args w, (callFunc gf args).run P w = .ok (.enter gf args) w)
    {encs : σ → Array Value} (hps : ∀ s, (encs s).size = ps.size) (I₀ : World → Prop) (A B : σ → World → Prop) (E : World → Prop) (Z : Code → World → Prop)
    (hI : Steady w.heap.size I₀) (hA : ∀ s, Steady w.heap.size (A s)) (hB : ∀ s, Steady w.heap.size (B s)) (hE : Steady w.heap.size E) (hZ : ∀ c, Steady w.heap.size (Z c)) (h0 : I₀ w)
    (hseq : ∀ (l : Nat) (X : World → Prop) (Xz : Code → World → Prop) (W : World), w.heap.size < l → (∀ U V, X U → KeepsFrom w.heap.size U V → X V) → I₀ W → X W →
      (∀ s U, B s U → X U → YieldAt F (n - 1 - 1) P l (encs s) U fun e V => (e = .returned (.bool true) ∧ A s V ∧ X V) ∨ (e = .returned (.bool false) ∧ ∃ c, Z c V ∧ Xz c V)) →
      CallsIn F (n - 1) P gf (#[.func (.yield l) #[] #[]] ++ lb) W fun e V => (∃ v, e = .returned v) ∧ ((E V ∧ X V) ∨ ∃ c, Z c V ∧ Xz c V))
    (a₁ : σ → Act)
    (hassign : ∀ (l : Nat) (s : σ) (W : World) (K : Act → World → Prop), K (a₁ s) W →
      assign.wpIn (F.inRound l) (n - 1 - 1) P (Exit.then K (fun _ _ _ => False)) { tmps := (ps.zip (encs s)).foldl (fun t (p, v) => t.setIfInBounds p v) a.tmps, defers := [] } W)
    (hbody : ∀ (l : Nat) (s : σ) (W : World), w.heap.size < l → B s W → body.wpIn (F.inRound l) (n - 1 - 1) P (stPost w.heap.size (A s) Z W) (a₁ s) W)
    (hdone : ∀ (D : Nat) (W : World), w.heap.size ≤ D → E W → W.heap[D]? = some (.deferred (some [])) → Q .normal { a with defers := { target := .collected D, args := #[] } :: a.defers } W)
    (hstop : ∀ (D : Nat) (c : Code) (W : World), w.heap.size ≤ D → Z c W → W.heap[D]? = some (.deferred (some [])) → c.wpIn F n P Q { a with defers := { target := .collected D, args := #[] } :: a.defers } W) :
    (Code.rangeFunc g ps assign body).wpIn F n P Q a w := by
  refine wpIn_rangeFunc (fun fn hfn => ?_)
  rw [hro]
  -- the loop's record, at each of its stages
  let rc : LoopState → Option Code → Loop := fun st pe => { state := st, pending := pe, fn, tmps := a.tmps, params := ps, assign, body, defers := w.heap.size }
  let W1 : World := (w.alloc (.deferred (some []))).alloc (.loop (rc .ready none))
  let d0 : Obj := .deferred (some [])
  have hs1 : (w.alloc (.deferred (some []))).heap.size = w.heap.size + 1 := World.size_alloc ..
  have rec1 : W1.heap[w.heap.size + 1]? = some (.loop (rc .ready none)) := by
    have h := World.alloc_heap_new (w.alloc (.deferred (some []))) (.loop (rc .ready none))
    rw [hs1] at h
    exact h
  have def1 : W1.heap[w.heap.size]? = some d0 := (Below.heap_alloc _ _ _ (by rw [hs1]; exact Nat.lt_succ_self _)).trans (World.alloc_heap_new w _)
  refine ⟨w.heap.size + 1, [{ target := .collected w.heap.size, args := #[] }], W1, { target := .fn (.func gf) lb, args := #[.func (.yield (w.heap.size + 1)) #[] #[]] }, W1, gf, #[.func (.yield (w.heap.size + 1)) #[] #[]] ++ lb, W1,
    run_enterLoop_outer _ _ _ _ _, ?_, ?_, ?_, fun _ => h1, ?_⟩
  · simp only [resolve, hg]
    simp [go_sem]
  · intro f' hf'
    simp [Target.leads] at hf'
    exact hf' ▸ hFg
  · simp [invoke, go_sem, eg]
  refine (hseq (w.heap.size + 1) (fun W => W.heap[w.heap.size + 1]? = some (.loop (rc .ready none)) ∧ W.heap[w.heap.size]? = some d0)
    (fun c W => W.heap[w.heap.size + 1]? = some (.loop (rc .done (some c))) ∧ W.heap[w.heap.size]? = some d0) W1 (Nat.lt_succ_self _)
    (fun U V hX hk => ⟨hk.same _ _ (Nat.le_succ _) hX.1 rfl, hk.same _ _ (Nat.le_refl _) hX.2 rfl⟩) (hI.alloc _ (hI.alloc _ h0)) ⟨rec1, def1⟩ ?_).mono ?_
  · -- a round
    rintro s U hBU ⟨hl, hd⟩
    have hlt : w.heap.size + 1 < U.heap.size := (Array.getElem?_eq_some_iff.1 hl).1
    refine ⟨fn, _, assign, body, run_yield (P := P) (args := encs s) hl (hps s), roundIn_of_wpIn hfn (hassign _ s U _ ⟨_, run_beginRound hl rfl, ?_⟩)⟩
    let U2 : World := U.putObj (w.heap.size + 1) (.loop (rc .busy none))
    have hl2 : U2.heap[w.heap.size + 1]? = some (.loop (rc .busy none)) := World.putObj_heap_same hlt
    have hd2 : U2.heap[w.heap.size]? = some d0 := (World.putObj_heap_other (by omega)).trans hd
    have hB2 : B s U2 := (hB s).put _ hBU (Nat.le_succ _) hl rfl
    have ends : ∀ (jump : Option Code) (V : World), KeepsFrom w.heap.size U2 V →
        (Instr.endRound (w.heap.size + 1) jump).run P V = .ok (.bool jump.isNone) (V.putObj (w.heap.size + 1) (.loop (rc (if jump.isNone then .ready else .done) jump))) ∧
        V.heap[w.heap.size + 1]? = some (.loop (rc .busy none)) ∧
        (V.putObj (w.heap.size + 1) (.loop (rc (if jump.isNone then .ready else .done) jump))).heap[w.heap.size + 1]? = some (.loop (rc (if jump.isNone then .ready else .done) jump)) ∧
        (V.putObj (w.heap.size + 1) (.loop (rc (if jump.isNone then .ready else .done) jump))).heap[w.heap.size]? = some d0 := fun jump V hk => by
      have hl3 := hk.same _ _ (Nat.le_succ _) hl2 rfl
      exact ⟨run_endRound (P := P) jump hl3, hl3, World.putObj_heap_same (Array.getElem?_eq_some_iff.1 hl3).1, (World.putObj_heap_other (by omega)).trans (hk.same _ _ (Nat.le_refl _) hd2 rfl)⟩
    have left : ∀ (c : Code) (V : World), KeepsFrom w.heap.size U2 V ∧ Z c V → ∃ x V', (Instr.endRound (w.heap.size + 1) (some c)).run P V = .ok x V' ∧ ((Ending.returned x = .returned (.bool true) ∧ A s V' ∧ V'.heap[w.heap.size + 1]? = some (.loop (rc .ready none)) ∧ V'.heap[w.heap.size]? = some d0) ∨
        (Ending.returned x = .returned (.bool false) ∧ ∃ c, Z c V' ∧ V'.heap[w.heap.size + 1]? = some (.loop (rc .done (some c))) ∧ V'.heap[w.heap.size]? = some d0)) := fun c V ⟨hk, hz⟩ => by
      obtain ⟨hr, hl3, hl4, hd4⟩ := ends (some c) V hk
      exact ⟨_, _, hr, .inr ⟨rfl, c, (hZ c).put _ hz (Nat.le_succ _) hl3 rfl, hl4, hd4⟩⟩
    refine wpIn_mono (hbody _ s U2 (Nat.lt_succ_self _) hB2) ?_
    intro e a3 V hp
    cases e with
    | normal =>
      obtain ⟨hk, ha⟩ := hp
      obtain ⟨hr, hl3, hl4, hd4⟩ := ends none V hk
      exact ⟨_, _, hr, .inl ⟨rfl, (hA s).put _ ha (Nat.le_succ _) hl3 rfl, hl4, hd4⟩⟩
    | ret => exact left .ret V hp
    | exit id => exact left (.exit id) V hp
    | goto t => exact left (.goto t) V hp
    | panic ch => exact hp.elim
    | outgrown => exact hp.elim
  · -- behind the iterator
    rintro e V ⟨⟨v, rfl⟩, (⟨he, hl, hd⟩ | ⟨c, hz, hl, hd⟩)⟩
    · exact ⟨none, _, run_endLoop (P := P) hl (by simp [rc]), hdone _ _ (Nat.le_refl _) (hE.put _ he (Nat.le_succ _) hl rfl) ((World.putObj_heap_other (by omega)).trans hd)⟩
    · exact ⟨some c, _, run_endLoop (P := P) hl (by simp [rc]), hstop _ c _ (Nat.le_refl _) ((hZ c).put _ hz (Nat.le_succ _) hl rfl) ((World.putObj_heap_other (by omega)).trans hd)⟩
end Go.Proofs.Ytjapilpjahhimaa

/- natdiv's two iterators over a list of words, whose words may be written while they are gone through. -/
namespace Go.Proofs.Ytjapilpjahhimaa
open Go.RowKit Go.Shelf

attribute [local go_sem] Oper.semAt_some



end Go.Proofs.Ytjapilpjahhimaa

/- What natdiv.raiseWide reckons, word by word. -/
namespace Go.Proofs.Ytjapilpjahhimaa
open Go.RowKit Go.Shelf

def shlw (x p : Nat) : Nat := x * 2 ^ p % 18446744073709551616
def shrw (x p : Nat) : Nat := x / 2 ^ p
theorem shlw_lt (x p : Nat) : shlw x p < 18446744073709551616 := Nat.mod_lt _ (by decide)
theorem shrw_le (x p : Nat) : shrw x p ≤ x := Nat.div_le_self _ _
theorem wrap_shl {x p : Nat} (_hx : x < 18446744073709551616) (hp : p ≤ 64) : IntKind.u64.wrap ((x : Int) * 2 ^ min p 64) = (shlw x p : Int) := by
  rw [Nat.min_eq_left hp, IntKind.wrap_u64, shlw]
  have : (x : Int) * 2 ^ p = ((x * 2 ^ p : Nat) : Int) := by simp
  rw [this]
  omega
theorem div_shr (x p : Nat) (hp : p ≤ 64) : (x : Int) / 2 ^ min p 64 = (shrw x p : Int) := by
  rw [Nat.min_eq_left hp, shrw]
  have : (2 : Int) ^ p = ((2 ^ p : Nat) : Int) := by simp
  rw [this]
  exact (Int.natCast_ediv x (2 ^ p)).symm
theorem pow64 {p : Nat} (hp : p ≤ 64) : 18446744073709551616 = 2 ^ (64 - p) * 2 ^ p := by
  rw [← Nat.pow_add, Nat.sub_add_cancel hp]
/-- a word, shifted: what stays and what goes over -/
theorem sh_split {x p : Nat} (hp : p ≤ 64) : shlw x p + 18446744073709551616 * shrw x (64 - p) = x * 2 ^ p := by
  have h1 : shrw x (64 - p) = x * 2 ^ p / 18446744073709551616 := by
    unfold shrw
    have e := pow64 hp
    rw [e, Nat.mul_div_mul_right _ _ (Nat.two_pow_pos p)]
  rw [h1, shlw]
  exact Nat.mod_add_div _ _
theorem shrw_lt {x p : Nat} (hp : p ≤ 64) (hx : x < 18446744073709551616) : shrw x (64 - p) < 2 ^ p := by
  unfold shrw
  rw [Nat.div_lt_iff_lt_mul (Nat.two_pow_pos _), Nat.mul_comm, ← pow64 hp]
  exact hx
theorem or_add {c x p : Nat} (hp : p ≤ 64) (hc : c < 2 ^ p) : c ||| shlw x p = c + shlw x p := by
  have h1 : shlw x p = 2 ^ p * (x % 2 ^ (64 - p)) := by
    unfold shlw
    have e := pow64 hp
    rw [e, Nat.mul_mod_mul_right, Nat.mul_comm]
  rw [h1, Nat.or_comm, ← Nat.two_pow_add_eq_or_of_lt hc, Nat.add_comm]
theorem val_set {B : Nat} {s : List Nat} {i : Nat} (v : Nat) (h : i < s.length) : val B (s.set i v) + B ^ i * lim s i = val B s + B ^ i * v := by
  induction s generalizing i with
  | nil => simp at h
  | cons x r ih =>
    cases i with
    | zero => simp [val, lim_cons_zero]; omega
    | succ i =>
      have := ih (i := i) (by simpa using h)
      have hm := congrArg (B * ·) this
      simp only [Nat.mul_add, ← Nat.mul_assoc] at hm
      rw [List.set_cons_succ, val, val, lim_cons_succ, Nat.pow_succ, Nat.mul_comm (B ^ i) B]
      omega
def rwS (xs : List Nat) (wh p : Nat) : Nat → List Nat
  | 0 => List.replicate (xs.length + wh + 1) 0
  | k + 1 => ((rwS xs wh p k).set (wh + k) (lim (rwS xs wh p k) (wh + k) ||| shlw (lim xs k) p)).set (wh + k + 1) (shrw (lim xs k) (64 - p))
theorem rw_fine {xs : List Nat} {wh p : Nat} (hlow : Low 18446744073709551616 xs) (hp : p < 64) (k : Nat) (hk : k ≤ xs.length) :
    (rwS xs wh p k).length = xs.length + wh + 1 ∧ Low 18446744073709551616 (rwS xs wh p k) ∧ val 18446744073709551616 (rwS xs wh p k) = part 18446744073709551616 xs k * (18446744073709551616 ^ wh * 2 ^ p) ∧ (∀ j, wh + k < j → lim (rwS xs wh p k) j = 0) ∧ lim (rwS xs wh p k) (wh + k) < 2 ^ p := by
  induction k with
  | zero =>
    refine ⟨by simp [rwS], low_rep (by decide), ?_, fun j _ => ?_, ?_⟩
    · rw [rwS, val_zeros _ _ (fun x hx => List.eq_of_mem_replicate hx)]; simp [part]
    · simp [rwS, lim, List.getElem?_replicate]; split <;> rfl
    · have : lim (rwS xs wh p 0) (wh + 0) = 0 := by simp [rwS, lim, List.getElem?_replicate]; split <;> rfl
      rw [this]; exact Nat.two_pow_pos p
  | succ k ih =>
    obtain ⟨f1, f2, f3, f4, f5⟩ := ih (by omega)
    have hx := lim_lt hlow (by decide) k
    have hs := sh_split (x := lim xs k) (p := p) (by omega)
    have ho := or_add (x := lim xs k) (by omega) f5
    have hlt := shrw_lt (p := p) (by omega) hx
    rw [rwS]
    generalize rwS xs wh p k = s at *
    generalize hxe : lim xs k = x at *
    have hor : lim s (wh + k) ||| shlw x p < 18446744073709551616 := Nat.or_lt_two_pow (n := 64) (lim_lt f2 (by decide) _) (shlw_lt _ _)
    refine ⟨by simp [f1], low_set (low_set f2 hor) (Nat.lt_of_le_of_lt (shrw_le _ _) hx), ?_, fun j hj => ?_, ?_⟩
    · have h1 := val_set (B := 18446744073709551616) (s := s.set (wh + k) (lim s (wh + k) ||| shlw x p)) (i := wh + k + 1) (shrw x (64 - p)) (by simp; omega)
      have e0 : lim (s.set (wh + k) (lim s (wh + k) ||| shlw x p)) (wh + k + 1) = 0 := by rw [lim_set, if_neg (by omega)]; exact f4 _ (by omega)
      rw [e0] at h1
      have h2 := val_set (B := 18446744073709551616) (s := s) (i := wh + k) (lim s (wh + k) ||| shlw x p) (by omega)
      rw [ho, Nat.mul_add] at h2
      rw [ho] at h1 ⊢
      have hm := congrArg (18446744073709551616 ^ (wh + k) * ·) hs
      simp only [Nat.mul_add] at hm
      have e1 : 18446744073709551616 ^ (wh + k + 1) * shrw x (64 - p) = 18446744073709551616 ^ (wh + k) * (18446744073709551616 * shrw x (64 - p)) := by rw [Nat.pow_succ, Nat.mul_assoc]
      have e2 : (part 18446744073709551616 xs k + 18446744073709551616 ^ k * x) * (18446744073709551616 ^ wh * 2 ^ p) = part 18446744073709551616 xs k * (18446744073709551616 ^ wh * 2 ^ p) + 18446744073709551616 ^ (wh + k) * (x * 2 ^ p) := by
        rw [Nat.add_mul, Nat.pow_add]
        congr 1
        simp only [Nat.mul_assoc, Nat.mul_left_comm, Nat.mul_comm]
      rw [part, hxe, e2, ← f3]
      omega
    · rw [lim_set, if_neg (by omega), lim_set, if_neg (by omega)]
      exact f4 j (by omega)
    · rw [show wh + (k + 1) = wh + k + 1 by omega, lim_set, if_pos ⟨rfl, by simp; omega⟩]
      exact hlt
/-- what holds when k words are in -/
def rwI (xs : List Nat) (wh p : Nat) (a : Option Addr) (cap : Nat) (w : World) (k : Nat) (W : World) : Prop :=
  (Boxed W w.heap.size 3 (.int .i64 (wh : Int)) ∧ Boxed W (w.heap.size + 1) 3 (.int .i64 (p : Int)) ∧ Row .u64 49 W (w.heap.size + 1 + 1) (rwS xs wh p k) ∧
    Boxed W (w.heap.size + 1 + 1 + 1) 22 (.slice (some ⟨w.heap.size + 1 + 1, 0, none⟩) (xs.length + wh + 1) (xs.length + wh + 1)) ∧ Boxed W (w.heap.size + 1 + 1 + 1 + 1) 22 (.slice a xs.length cap)) ∧ Below w.heap.size w W
theorem rwI_steady (xs : List Nat) (wh p : Nat) (a : Option Addr) (cap : Nat) (w : World) (k : Nat) {B₀ : Nat} (h : w.heap.size ≤ B₀) : Steady B₀ (rwI xs wh p a cap w k) :=
  Steady.and (Steady.and steady_boxed (Steady.and steady_boxed (Steady.and steady_row (Steady.and steady_boxed steady_boxed)))) (steady_below h (Nat.le_refl _))
end Go.Proofs.Ytjapilpjahhimaa

/- What natdiv.lower reckons; a stretch of words in a block that may be written. -/
namespace Go.Proofs.Ytjapilpjahhimaa
open Go.RowKit Go.Shelf

/-- the words of a number by 2^p -/
def lowL : List Nat → Nat → List Nat
  | [], _ => []
  | x :: r, p => (shrw x p ||| shlw (lim r 0) (64 - p)) :: lowL r p
theorem lowL_length (xs : List Nat) (p : Nat) : (lowL xs p).length = xs.length := by
  induction xs with
  | nil => rfl
  | cons x r ih => simp [lowL, ih]
theorem lowL_lim {xs : List Nat} {p i : Nat} (h : i < xs.length) : lim (lowL xs p) i = shrw (lim xs i) p ||| shlw (lim xs (i + 1)) (64 - p) := by
  induction xs generalizing i with
  | nil => simp at h
  | cons x r ih =>
    cases i with
    | zero => rfl
    | succ i => exact ih (by simpa using h)
theorem shlw_eq {x p : Nat} (hp : p ≤ 64) : shlw x (64 - p) = 2 ^ (64 - p) * (x % 2 ^ p) := by
  unfold shlw
  have e : 18446744073709551616 = 2 ^ p * 2 ^ (64 - p) := by rw [← Nat.pow_add, Nat.add_sub_cancel' hp]
  rw [e, Nat.mul_mod_mul_right, Nat.mul_comm]
theorem low_or {x y p : Nat} (hp : p ≤ 64) (hx : x < 18446744073709551616) : shrw x p ||| shlw y (64 - p) = shrw x p + shlw y (64 - p) := by
  have h1 : shrw x p < 2 ^ (64 - p) := by
    unfold shrw
    rw [Nat.div_lt_iff_lt_mul (Nat.two_pow_pos p), ← Nat.pow_add, Nat.sub_add_cancel hp]
    exact hx
  rw [shlw_eq hp, Nat.or_comm, ← Nat.two_pow_add_eq_or_of_lt h1, Nat.add_comm]
theorem lowL_low {xs : List Nat} (h : Low 18446744073709551616 xs) (p : Nat) : Low 18446744073709551616 (lowL xs p) := by
  induction xs with
  | nil => intro x hx; cases hx
  | cons x r ih =>
    intro y hy
    rcases List.mem_cons.1 hy with e | e
    · subst e
      exact Nat.or_lt_two_pow (n := 64) (Nat.lt_of_le_of_lt (shrw_le _ _) (h x (List.mem_cons_self ..))) (shlw_lt _ _)
    · exact ih (fun z hz => h z (List.mem_cons_of_mem _ hz)) y e
theorem lowL_val {xs : List Nat} (h : Low 18446744073709551616 xs) {p : Nat} (hp : p ≤ 64) : val 18446744073709551616 (lowL xs p) = val 18446744073709551616 xs / 2 ^ p := by
  induction xs with
  | nil => simp [lowL, val]
  | cons x r ih =>
    have hi := ih fun z hz => h z (List.mem_cons_of_mem _ hz)
    have hx := h x (List.mem_cons_self ..)
    rw [lowL, val, val, hi, low_or hp hx, shlw_eq hp]
    have e : 18446744073709551616 = 2 ^ (64 - p) * 2 ^ p := by rw [← Nat.pow_add, Nat.sub_add_cancel hp]
    have hr : lim r 0 % 2 ^ p = val 18446744073709551616 r % 2 ^ p := by
      cases r with
      | nil => rfl
      | cons y s =>
        rw [lim_cons_zero, val, e, Nat.mul_assoc, Nat.mul_left_comm, Nat.add_mul_mod_self_left]
    rw [hr]
    generalize val 18446744073709551616 r = V
    have h1 : (x + 18446744073709551616 * V) / 2 ^ p = x / 2 ^ p + 2 ^ (64 - p) * V := by
      rw [e, Nat.mul_right_comm, Nat.add_mul_div_right _ _ (Nat.two_pow_pos p)]
    have h2 : 2 ^ (64 - p) * V = 18446744073709551616 * (V / 2 ^ p) + 2 ^ (64 - p) * (V % 2 ^ p) := by
      rw [e, Nat.mul_assoc, ← Nat.mul_add, Nat.div_add_mod]
    rw [h1, h2, shrw]
    omega
def lwS (xs : List Nat) (p : Nat) : Nat → List Nat
  | 0 => xs
  | k + 1 => (lwS xs p k).set (xs.length - 1 - k) (lim (lowL xs p) (xs.length - 1 - k))
theorem lwS_fine (xs : List Nat) (p k : Nat) (hk : k ≤ xs.length) : (lwS xs p k).length = xs.length ∧ ∀ j, lim (lwS xs p k) j = if xs.length - k ≤ j then lim (lowL xs p) j else lim xs j := by
  induction k with
  | zero =>
    refine ⟨rfl, fun j => ?_⟩
    split
    · rename_i h
      rw [lwS, lim_ge (by omega), lim_ge (by rw [lowL_length]; omega)]
    · rfl
  | succ k ih =>
    obtain ⟨h1, h2⟩ := ih (by omega)
    refine ⟨by simp [lwS, h1], fun j => ?_⟩
    rw [lwS, lim_set, h2]
    by_cases e : j = xs.length - 1 - k
    · rw [if_pos ⟨e, by omega⟩, if_pos (by omega), e]
    · rw [if_neg (by omega)]
      by_cases e2 : xs.length - k ≤ j
      · rw [if_pos e2, if_pos (by omega)]
      · rw [if_neg e2, if_neg (by omega)]
theorem lwS_all (xs : List Nat) (p : Nat) : lwS xs p xs.length = lowL xs p := by
  obtain ⟨h1, h2⟩ := lwS_fine xs p xs.length (Nat.le_refl _)
  exact lim_ext (by rw [h1, lowL_length]) fun i hi => by rw [h2, if_pos (by omega)]

/-- a stretch of words in block S, from place off on; the block may be written -/
def Seg (W : World) (S off : Nat) (s : List Nat) : Prop := ∃ cur, W.heap[S]? = some (.cells cur 49 (0, 0)) ∧ off + s.length ≤ cur.size ∧ ∀ j, j < s.length → cur[off + j]? = some (.int .u64 (lim s j : Int))
section
variable {W W' : World} {S off : Nat} {s : List Nat}
theorem Seg.lt (h : Seg W S off s) : S < W.heap.size := by obtain ⟨_, h, _⟩ := h; exact (Array.getElem?_eq_some_iff.1 h).1
theorem Seg.cell (h : Seg W S off s) {j : Nat} (hj : j < s.length) : W.cell? ⟨S, off + j, none⟩ = some (.int .u64 (lim s j : Int)) := by
  obtain ⟨cur, h1, h2, h3⟩ := h
  rw [cell_of_row W S (off + j) _ _ (0, 0) h1, h3 j hj]
theorem Seg.frozen (h : Seg W S off s) (o : Nat) : W.frozen? ⟨S, o, none⟩ = false := by
  obtain ⟨cur, h1, h2, h3⟩ := h
  simp [World.frozen?, h1]
theorem Seg.set (h : Seg W S off s) (i v : Nat) (hi : i < s.length) : Seg (W.setCell ⟨S, off + i, none⟩ (.int .u64 (v : Int))) S off (s.set i v) := by
  obtain ⟨cur, h1, h2, h3⟩ := h
  refine ⟨cur.setIfInBounds (off + i) (.int .u64 (v : Int)), by simp [World.setCell, Array.getElem?_modify, h1], by simpa using h2, fun j hj => ?_⟩
  rw [List.length_set] at hj
  rw [Array.getElem?_setIfInBounds, lim_set]
  by_cases e : i = j
  · subst e
    rw [if_pos rfl, if_pos (by omega), if_pos ⟨rfl, hi⟩]
  · rw [if_neg (by omega), if_neg (by omega)]
    exact h3 j hj
theorem Seg.kept (h : Seg W S off s) (hk : W'.heap[S]? = W.heap[S]?) : Seg W' S off s := by
  obtain ⟨cur, h1, h2⟩ := h
  exact ⟨cur, hk.trans h1, h2⟩
theorem Seg.far (h : Seg W S off s) {p : Addr} (hp : S ≠ p.block) (u : Value) : Seg (W.setCell p u) S off s := h.kept (Below.heap_setCell W p u S hp)
theorem Seg.behind (h : Seg W S off s) (hb : Below W.heap.size W W') : Seg W' S off s := h.kept (hb.block S h.lt)
theorem Seg.drew (h : Seg W S off s) : Seg W.drew S off s := h
theorem Seg.rd (h : Seg W S off s) {cap : Nat} (hc : s.length ≤ cap) : RdAt S W (.slice (some ⟨S, off, none⟩) s.length cap) s := .inr ⟨off, cap, rfl, hc, fun _ hj => h.cell hj⟩
theorem Row.seg (h : Row .u64 49 W S s) : Seg W S 0 s := ⟨_, h, by simp [cellsOf], fun j hj => by rw [Nat.zero_add]; exact cellsOf_get hj⟩
end
theorem steady_seg {B₀ S off : Nat} {s : List Nat} : Steady B₀ (fun W => Seg W S off s) := fun u W W' row hs hg hr => by
  obtain ⟨cur, h1, h2⟩ := hs
  exact ⟨cur, steady_block (B₀ := B₀) u W W' row h1 hg hr, h2⟩
/-- block S is of words, and may be written -/
def Wb (W : World) (S : Nat) : Prop := ∃ cur, W.heap[S]? = some (.cells cur 49 (0, 0))
theorem Seg.wb {W : World} {S off : Nat} {s : List Nat} (h : Seg W S off s) : Wb W S := by obtain ⟨cur, h1, _⟩ := h; exact ⟨cur, h1⟩
theorem Wb.lt {W : World} {S : Nat} (h : Wb W S) : S < W.heap.size := by obtain ⟨_, h⟩ := h; exact (Array.getElem?_eq_some_iff.1 h).1
theorem Wb.kept {W W' : World} {S : Nat} (h : Wb W S) (hk : W'.heap[S]? = W.heap[S]?) : Wb W' S := by obtain ⟨cur, h1⟩ := h; exact ⟨cur, hk.trans h1⟩
theorem Wb.behind {W W' : World} {S : Nat} (h : Wb W S) (hb : Below W.heap.size W W') : Wb W' S := h.kept (hb.block S h.lt)
theorem Wb.seg {W : World} {S : Nat} {v : Value} {xs : List Nat} (h : Wb W S) (hr : RdAt S W v xs) (h0 : 0 < xs.length) : ∃ off cap, v = .slice (some ⟨S, off, none⟩) xs.length cap ∧ xs.length ≤ cap ∧ Seg W S off xs := by
  obtain ⟨cur, h1⟩ := h
  rcases hr with ⟨_, h⟩ | ⟨off, cap, rfl, h2, h3⟩
  · subst h; simp at h0
  · have key : ∀ j, j < xs.length → cur[off + j]? = some (.int .u64 (lim xs j : Int)) := fun j hj => by
      have := h3 j hj
      rwa [cell_of_row W S (off + j) _ _ (0, 0) h1] at this
    refine ⟨off, cap, rfl, h2, cur, h1, ?_, key⟩
    have := (Array.getElem?_eq_some_iff.1 (key (xs.length - 1) (by omega))).1
    omega
/-- what holds when the k highest words are lowered -/
def lwI (xs : List Nat) (p S off cap : Nat) (w : World) (k : Nat) (W : World) : Prop :=
  (Boxed W w.heap.size 22 (.slice (some ⟨S, off, none⟩) xs.length cap) ∧ Boxed W (w.heap.size + 1) 3 (.int .i64 (p : Int)) ∧ Boxed W (w.heap.size + 1 + 1) 49 (.int .u64 (shlw (lim xs (xs.length - k)) (64 - p) : Int)) ∧
    Boxed W (w.heap.size + 1 + 1 + 1) 22 (.slice (some ⟨S, off, none⟩) xs.length cap) ∧ Seg W S off (lwS xs p k)) ∧ Off S w W
theorem lwI_steady (xs : List Nat) (p S off cap : Nat) (w : World) (k : Nat) {B₀ : Nat} (h : w.heap.size ≤ B₀) : Steady B₀ (lwI xs p S off cap w k) :=
  Steady.and (Steady.and steady_boxed (Steady.and steady_boxed (Steady.and steady_boxed (Steady.and steady_boxed steady_seg)))) (steady_off h)
theorem Steady.ex_ {B₀ : Nat} {α : Type} {I : α → World → Prop} (h : ∀ a, Steady B₀ (I a)) : Steady B₀ (fun W => ∃ a, I a W) := fun u W W' row ⟨a, ha⟩ hg hr => ⟨a, h a u W W' row ha hg hr⟩
end Go.Proofs.Ytjapilpjahhimaa

/- What natdiv.takeRow and natdiv.putRow reckon, word by word. -/
namespace Go.Proofs.Ytjapilpjahhimaa
open Go.RowKit Go.Shelf

def tkLow (x y c : Nat) : Nat := add64 (mulLo x y) c 0
def tkHigh (x y c : Nat) : Nat := mulHi x y + carry64 (mulLo x y) c 0
theorem tk_bound {x y s c : Nat} (hx : x < 18446744073709551616) (hy : y < 18446744073709551616) (hs : s < 18446744073709551616) (hc : c < 18446744073709551616) :
    sub64 s (tkLow x y c) 0 + x * y + c = s + 18446744073709551616 * (tkHigh x y c + borrow64 s (tkLow x y c) 0) ∧ tkHigh x y c + borrow64 s (tkLow x y c) 0 < 18446744073709551616 ∧ tkHigh x y c < 18446744073709551616 ∧ tkLow x y c < 18446744073709551616 := by
  have h1 : x * y ≤ 18446744073709551615 * 18446744073709551615 := Nat.mul_le_mul (by omega) (by omega)
  unfold tkLow tkHigh sub64 borrow64 add64 carry64 mulLo mulHi
  generalize x * y = p at *
  split <;> omega
/-- a list times a word, taken off: (the words, what is borrowed) -/
def tkS (Q : List Nat) (x off : Nat) (s : List Nat) : Nat → List Nat × Nat
  | 0 => (s, 0)
  | k + 1 => ((tkS Q x off s k).1.set (off + k) (sub64 (lim (tkS Q x off s k).1 (off + k)) (tkLow x (lim Q k) (tkS Q x off s k).2) 0), tkHigh x (lim Q k) (tkS Q x off s k).2 + borrow64 (lim (tkS Q x off s k).1 (off + k)) (tkLow x (lim Q k) (tkS Q x off s k).2) 0)
theorem tk_fine {Q s : List Nat} {x : Nat} (off : Nat) (hQ : Low 18446744073709551616 Q) (hs : Low 18446744073709551616 s) (hx : x < 18446744073709551616) (k : Nat) :
    (tkS Q x off s k).1.length = s.length ∧ (tkS Q x off s k).2 < 18446744073709551616 ∧ Low 18446744073709551616 (tkS Q x off s k).1 ∧ (∀ i, off + k ≤ i → lim (tkS Q x off s k).1 i = lim s i) := by
  induction k with
  | zero => exact ⟨rfl, by simp [tkS], hs, fun _ _ => rfl⟩
  | succ k ih =>
    obtain ⟨h1, h2, h3, h4⟩ := ih
    have hb := tk_bound hx (lim_lt hQ (by decide) k) (lim_lt h3 (by decide) (off + k)) h2
    rw [tkS]
    generalize tkS Q x off s k = r at *
    refine ⟨by simp [h1], hb.2.1, low_set h3 (Nat.mod_lt _ (by decide)), fun i hi => ?_⟩
    rw [lim_set, if_neg (by omega)]
    exact h4 i (by omega)
theorem tk_range {Q s : List Nat} {x off : Nat} (hQ : Low 18446744073709551616 Q) (hs : Low 18446744073709551616 s) (hx : x < 18446744073709551616) (k : Nat) (hk : off + k ≤ s.length) :
    part 18446744073709551616 (tkS Q x off s k).1 (off + k) + 18446744073709551616 ^ off * (x * part 18446744073709551616 Q k) = part 18446744073709551616 s (off + k) + 18446744073709551616 ^ (off + k) * (tkS Q x off s k).2 := by
  induction k with
  | zero => simp [part, tkS]
  | succ k ih =>
    have hi := ih (by omega)
    obtain ⟨f1, f2, f3, f4⟩ := tk_fine off hQ hs hx k
    have hsk := f4 (off + k) (Nat.le_refl _)
    have hb := (tk_bound hx (lim_lt hQ (by decide) k) (lim_lt f3 (by decide) (off + k)) f2).1
    rw [tkS]
    generalize tkS Q x off s k = r at *
    rw [hsk] at hb ⊢
    rw [show off + (k + 1) = off + k + 1 by omega]
    simp only [part]
    rw [part_set_ge (Nat.le_refl _), lim_set, if_pos ⟨rfl, by omega⟩]
    generalize sub64 (lim s (off + k)) (tkLow x (lim Q k) r.2) 0 = d at hb ⊢
    generalize tkHigh x (lim Q k) r.2 + borrow64 (lim s (off + k)) (tkLow x (lim Q k) r.2) 0 = c at hb ⊢
    have hm := congrArg (18446744073709551616 ^ (off + k) * ·) hb
    simp only [Nat.mul_add] at hm
    have h1 : 18446744073709551616 ^ (off + k + 1) * c = 18446744073709551616 ^ (off + k) * (18446744073709551616 * c) := by rw [Nat.pow_succ, Nat.mul_assoc]
    have h2 : 18446744073709551616 ^ off * (x * (part 18446744073709551616 Q k + 18446744073709551616 ^ k * lim Q k)) = 18446744073709551616 ^ off * (x * part 18446744073709551616 Q k) + 18446744073709551616 ^ (off + k) * (x * lim Q k) := by
      rw [Nat.mul_add x, Nat.mul_add]
      congr 1
      rw [Nat.pow_add, Nat.mul_assoc (18446744073709551616 ^ off), Nat.mul_left_comm x]
    rw [h1, h2]
    omega
/-- a list, put back: (the words, what is carried) -/
def puS (Q : List Nat) (off : Nat) (s : List Nat) : Nat → List Nat × Nat
  | 0 => (s, 0)
  | k + 1 => ((puS Q off s k).1.set (off + k) (add64 (lim (puS Q off s k).1 (off + k)) (lim Q k) (puS Q off s k).2), carry64 (lim (puS Q off s k).1 (off + k)) (lim Q k) (puS Q off s k).2)
theorem pu_fine {Q s : List Nat} (off : Nat) (hQ : Low 18446744073709551616 Q) (hs : Low 18446744073709551616 s) (k : Nat) :
    (puS Q off s k).1.length = s.length ∧ (puS Q off s k).2 ≤ 1 ∧ Low 18446744073709551616 (puS Q off s k).1 ∧ (∀ i, off + k ≤ i → lim (puS Q off s k).1 i = lim s i) := by
  induction k with
  | zero => exact ⟨rfl, by simp [puS], hs, fun _ _ => rfl⟩
  | succ k ih =>
    obtain ⟨h1, h2, h3, h4⟩ := ih
    have hq := lim_lt hQ (by decide) k
    have ho := lim_lt h3 (by decide) (off + k)
    rw [puS]
    generalize puS Q off s k = r at *
    refine ⟨by simp [h1], by simp only [carry64]; omega, low_set h3 (Nat.mod_lt _ (by decide)), fun i hi => ?_⟩
    rw [lim_set, if_neg (by omega)]
    exact h4 i (by omega)
theorem pu_range {Q s : List Nat} {off : Nat} (hQ : Low 18446744073709551616 Q) (hs : Low 18446744073709551616 s) (k : Nat) (hk : off + k ≤ s.length) :
    part 18446744073709551616 (puS Q off s k).1 (off + k) + 18446744073709551616 ^ (off + k) * (puS Q off s k).2 = part 18446744073709551616 s (off + k) + 18446744073709551616 ^ off * part 18446744073709551616 Q k := by
  induction k with
  | zero => simp [part, puS]
  | succ k ih =>
    have hi := ih (by omega)
    obtain ⟨f1, f2, f3, f4⟩ := pu_fine off hQ hs k
    have hsk := f4 (off + k) (Nat.le_refl _)
    rw [puS]
    generalize puS Q off s k = r at *
    rw [hsk, show off + (k + 1) = off + k + 1 by omega]
    simp only [part]
    rw [part_set_ge (Nat.le_refl _), lim_set, if_pos ⟨rfl, by omega⟩]
    have hb : add64 (lim s (off + k)) (lim Q k) r.2 + 18446744073709551616 * carry64 (lim s (off + k)) (lim Q k) r.2 = lim s (off + k) + lim Q k + r.2 := Nat.mod_add_div _ _
    generalize add64 (lim s (off + k)) (lim Q k) r.2 = d at hb ⊢
    generalize carry64 (lim s (off + k)) (lim Q k) r.2 = c at hb ⊢
    have hm := congrArg (18446744073709551616 ^ (off + k) * ·) hb
    simp only [Nat.mul_add] at hm
    have h1 : 18446744073709551616 ^ (off + k + 1) * c = 18446744073709551616 ^ (off + k) * (18446744073709551616 * c) := by rw [Nat.pow_succ, Nat.mul_assoc]
    have h2 : 18446744073709551616 ^ off * (part 18446744073709551616 Q k + 18446744073709551616 ^ k * lim Q k) = 18446744073709551616 ^ off * part 18446744073709551616 Q k + 18446744073709551616 ^ (off + k) * lim Q k := by
      rw [Nat.mul_add, Nat.pow_add, Nat.mul_assoc]
    rw [h1, h2]
    omega
/-- what holds when k words are taken -/
def tkI (Q s : List Nat) (x S off cap : Nat) (vq : Value) (w : World) (k : Nat) (W : World) : Prop :=
  (Row .u64 49 W S (tkS Q x off s k).1 ∧ Boxed W w.heap.size 22 (.slice (some ⟨S, off, none⟩) Q.length cap) ∧ Boxed W (w.heap.size + 1) 49 (.int .u64 (x : Int)) ∧ Boxed W (w.heap.size + 1 + 1) 49 (.int .u64 ((tkS Q x off s k).2 : Int)) ∧
    Boxed W (w.heap.size + 1 + 1 + 1) 22 vq) ∧ Off S w W
theorem tkI_steady (Q s : List Nat) (x S off cap : Nat) (vq : Value) (w : World) (k : Nat) {B₀ : Nat} (h : w.heap.size ≤ B₀) : Steady B₀ (tkI Q s x S off cap vq w k) :=
  Steady.and (Steady.and steady_row (Steady.and steady_boxed (Steady.and steady_boxed (Steady.and steady_boxed steady_boxed)))) (steady_off h)
def puI (Q s : List Nat) (S off cap : Nat) (vq : Value) (w : World) (k : Nat) (W : World) : Prop :=
  (Row .u64 49 W S (puS Q off s k).1 ∧ Boxed W w.heap.size 22 (.slice (some ⟨S, off, none⟩) Q.length cap) ∧ Boxed W (w.heap.size + 1) 49 (.int .u64 ((puS Q off s k).2 : Int)) ∧
    Boxed W (w.heap.size + 1 + 1) 22 vq) ∧ Off S w W
theorem puI_steady (Q s : List Nat) (S off cap : Nat) (vq : Value) (w : World) (k : Nat) {B₀ : Nat} (h : w.heap.size ≤ B₀) : Steady B₀ (puI Q s S off cap vq w k) :=
  Steady.and (Steady.and steady_row (Steady.and steady_boxed (Steady.and steady_boxed steady_boxed))) (steady_off h)
end Go.Proofs.Ytjapilpjahhimaa
