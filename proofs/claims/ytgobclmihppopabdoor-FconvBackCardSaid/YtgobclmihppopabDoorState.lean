/- A range over a function whose iterator and body share a state: the iterator may write memory between the rounds, the body may write what the iterator reads. What holds ahead of each call of yield (B), behind it (A), and where the body is left (Z), is said for each state s. -/
import Derived.Test.YtgobclmihppopabDoorRow
import Derived.Test.YtgobclmihppopabDoorBits
namespace Go.Proofs.YtgobclmihppopabDoor
open Go.RowKit Go.Shelf

/-- how a round's body may be left -/
def stPost (B₀ : Nat) (A : World → Prop) (Z : Code → World → Prop) (W : World) : Exit → Act → World → Prop
  | .normal, _, W' => KeepsFrom B₀ W W' ∧ A W'
  | .ret, _, W' => KeepsFrom B₀ W W' ∧ Z .ret W'
  | .exit id, _, W' => KeepsFrom B₀ W W' ∧ Z (.exit id) W'
  | .goto t, _, W' => KeepsFrom B₀ W W' ∧ Z (.goto t) W'
  | .panic _, _, _ => False
  | .outgrown, _, _ => False
/-- what the loop's own blocks (from B₀ on, none of them cells) do not touch -/
def Steady (B₀ : Nat) (I : World → Prop) : Prop := OwnFrom B₀ (fun (_ : Unit) W => I W)
theorem Steady.put {B₀ : Nat} {I : World → Prop} (h : Steady B₀ I) {W : World} {l : Nat} {o : Obj} (o' : Obj) (hs : I W) (hB : B₀ ≤ l) (hl : W.heap[l]? = some o) (ho : o.isCells = false) : I (W.putObj l o') :=
  OwnFrom.putObj (s := ()) h o' hs hB hl ho
theorem Steady.alloc {B₀ : Nat} {I : World → Prop} (h : Steady B₀ I) {W : World} (o : Obj) (hs : I W) : I (W.alloc o) := OwnFrom.alloc (s := ()) h o hs
theorem Steady.and {B₀ : Nat} {I J : World → Prop} (h : Steady B₀ I) (k : Steady B₀ J) : Steady B₀ (fun W => I W ∧ J W) := OwnFrom.and h k
theorem steady_below {B₀ B : Nat} {w₀ : World} (hB : B ≤ B₀) (hw : B ≤ w₀.heap.size) : Steady B₀ (fun W => Below B w₀ W) := fun _ _ _ row hs hg hr =>
  ⟨hg.os.trans hs.os, hg.tape.trans hs.tape, hg.output.trans hs.output, Nat.le_trans hs.size hg.size, fun k hk =>
    (hg.block k (Nat.lt_of_lt_of_le (Nat.lt_of_lt_of_le hk hw) hs.size) (fun e => by have := (hr k e.symm).1; omega)).trans (hs.block k hk)⟩
/-- a block of cells stays -/
theorem steady_block {B₀ : Nat} {k : Nat} {cs : Array Value} {t : TypeId} {z : Nat × Nat} : Steady B₀ (fun W => W.heap[k]? = some (.cells cs t z)) := fun _ W W' row hs hg hr => by
  refine (hg.block k (Array.getElem?_eq_some_iff.1 hs).1 (fun e => ?_)).trans hs
  obtain ⟨_, o, ho, hc⟩ := hr k e.symm
  rw [hs] at ho
  cases ho
  cases hc
theorem steady_row {B₀ S : Nat} {k : IntKind} {t : TypeId} {s : List Nat} : Steady B₀ (fun W => Row k t W S s) := steady_block
theorem steady_boxed {B₀ b : Nat} {t : TypeId} {v : Value} : Steady B₀ (fun W => Boxed W b t v) := fun u W W' row hs hg hr => boxed_own (β := Unit) b t (fun _ => v) u W W' row hs hg (fun r e => (hr r e).2)
theorem steady_pure {B₀ : Nat} {p : Prop} : Steady B₀ (fun _ => p) := fun _ _ _ _ hs _ _ => hs
theorem steady_off {S B₀ : Nat} {w₀ : World} (hB : w₀.heap.size ≤ B₀) : Steady B₀ (fun W => Off S w₀ W) := fun u W W' row hs hg hr => ownFrom_off (β := Unit) hB u W W' row hs hg hr
/-- a block below the loop's own: it lies as it lay in one world -/
theorem steady_old {B₀ k : Nat} {w₀ : World} (hk : k < B₀) (hk2 : k < w₀.heap.size) : Steady B₀ (fun W => W.heap[k]? = w₀.heap[k]?) := fun _ W W' row hs hg hr => by
  have hl : k < W.heap.size := by
    rw [Array.getElem?_eq_getElem hk2] at hs
    exact (Array.getElem?_eq_some_iff.1 hs).1
  exact (hg.block k hl (fun e => by have := (hr k e.symm).1; omega)).trans hs

theorem wpIn_range {σ : Type} {F : Fence} {n : Nat} {P : Program} {g : Operand} {ps : Array Tmp} {assign body : Code} {Q : Exit → Act → World → Prop} {a : Act} {w : World}
    (hro : F.round = none) (h1 : 1 ≤ n) {gf : Nat} {lb : Array Value} (hg : a.eval g = .func (.func gf) #[] lb) (hFg : F.fn gf) (eg : ∀ args w, (callFunc gf args).run P w = .ok (.enter gf args) w)
    {encs : σ → Array Value} (hps : ∀ s, (encs s).size = ps.size) (I₀ : World → Prop) (A B : σ → World → Prop) (E : World → Prop) (Z : Code → World → Prop)
    (hI : Steady w.heap.size I₀) (hA : ∀ s, Steady w.heap.size (A s)) (hB : ∀ s, Steady w.heap.size (B s)) (hE : Steady w.heap.size E) (hZ : ∀ c, Steady w.heap.size (Z c)) (h0 : I₀ w)
    (hseq : ∀ (l : Nat) (X : World → Prop) (Xz : Code → World → Prop) (W : World), w.heap.size < l → (∀ U V, X U → KeepsFrom w.heap.size U V → X V) → I₀ W → X W →
      (∀ s U, B s U → X U → YieldAt F (n - 1 - 1) P l (encs s) U fun e V => (e = .returned (.bool true) ∧ A s V ∧ X V) ∨ (e = .returned (.bool false) ∧ ∃ c, Z c V ∧ Xz c V)) →
      CallsIn F (n - 1) P gf (#[.func (.yield l) #[] #[]] ++ lb) W fun e V => (∃ v, e = .returned v) ∧ ((E V ∧ X V) ∨ ∃ c, Z c V ∧ Xz c V))
    (a₁ : σ → Act)
    (hassign : ∀ (l : Nat) (s : σ) (W : World) (K : Act → World → Prop), K (a₁ s) W →
      assign.wpIn (F.inRound l) (n - 1 - 1) P (Exit.then K (fun _ _ _ => False)) { tmps := (ps.zip (encs s)).foldl (fun t (p, v) => t.setIfInBounds p v) a.tmps, defers := [] } W)
    (hbody : ∀ (l : Nat) (s : σ) (W : World), w.heap.size < l → B s W → body.wpIn (F.inRound l) (n - 1 - 1) P (stPost w.heap.size (A s) Z W) (a₁ s) W)
    (hdone : ∀ (D : Nat) (W : World), w.heap.size ≤ D → E W → W.heap[D]? = some (.deferred (some [])) → Q .normal { a with defers := { target := .collected D, args := #[] } :: a.defers } W)
    (hstop : ∀ (D : Nat) (c : Code) (W : World), w.heap.size ≤ D → Z c W → W.heap[D]? = some (.deferred (some [])) → c.wpIn F n P Q { a with defers := { target := .collected D, args := #[] } :: a.defers } W) :
    (Code.rangeFunc g ps assign body).wpIn F n P Q a w := by
  refine wpIn_rangeFunc (fun fn hfn => ?_)
  rw [hro]
  -- the loop's record, at each of its stages
  let rc : LoopState → Option Code → Loop := fun st pe => { state := st, pending := pe, fn, tmps := a.tmps, params := ps, assign, body, defers := w.heap.size }
  let W1 : World := (w.alloc (.deferred (some []))).alloc (.loop (rc .ready none))
  let d0 : Obj := .deferred (some [])
  have hs1 : (w.alloc (.deferred (some []))).heap.size = w.heap.size + 1 := World.size_alloc ..
  have rec1 : W1.heap[w.heap.size + 1]? = some (.loop (rc .ready none)) := by
    have h := World.alloc_heap_new (w.alloc (.deferred (some []))) (.loop (rc .ready none))
    rw [hs1] at h
    exact h
  have def1 : W1.heap[w.heap.size]? = some d0 := (Below.heap_alloc _ _ _ (by rw [hs1]; exact Nat.lt_succ_self _)).trans (World.alloc_heap_new w _)
  refine ⟨w.heap.size + 1, [{ target := .collected w.heap.size, args := #[] }], W1, { target := .fn (.func gf) lb, args := #[.func (.yield (w.heap.size + 1)) #[] #[]] }, W1, gf, #[.func (.yield (w.heap.size + 1)) #[] #[]] ++ lb, W1,
    run_enterLoop_outer _ _ _ _ _, ?_, ?_, ?_, fun _ => h1, ?_⟩
  · simp only [resolve, hg]
    simp [go_sem]
  · intro f' hf'
    simp [Target.leads] at hf'
    exact hf' ▸ hFg
  · simp [invoke, go_sem, eg]
  refine (hseq (w.heap.size + 1) (fun W => W.heap[w.heap.size + 1]? = some (.loop (rc .ready none)) ∧ W.heap[w.heap.size]? = some d0)
    (fun c W => W.heap[w.heap.size + 1]? = some (.loop (rc .done (some c))) ∧ W.heap[w.heap.size]? = some d0) W1 (Nat.lt_succ_self _)
    (fun U V hX hk => ⟨hk.same _ _ (Nat.le_succ _) hX.1 rfl, hk.same _ _ (Nat.le_refl _) hX.2 rfl⟩) (hI.alloc _ (hI.alloc _ h0)) ⟨rec1, def1⟩ ?_).mono ?_
  · -- a round
    rintro s U hBU ⟨hl, hd⟩
    have hlt : w.heap.size + 1 < U.heap.size := (Array.getElem?_eq_some_iff.1 hl).1
    refine ⟨fn, _, assign, body, run_yield (P := P) (args := encs s) hl (hps s), roundIn_of_wpIn hfn (hassign _ s U _ ⟨_, run_beginRound hl rfl, ?_⟩)⟩
    let U2 : World := U.putObj (w.heap.size + 1) (.loop (rc .busy none))
    have hl2 : U2.heap[w.heap.size + 1]? = some (.loop (rc .busy none)) := World.putObj_heap_same hlt
    have hd2 : U2.heap[w.heap.size]? = some d0 := (World.putObj_heap_other (by omega)).trans hd
    have hB2 : B s U2 := (hB s).put _ hBU (Nat.le_succ _) hl rfl
    have ends : ∀ (jump : Option Code) (V : World), KeepsFrom w.heap.size U2 V →
        (Instr.endRound (w.heap.size + 1) jump).run P V = .ok (.bool jump.isNone) (V.putObj (w.heap.size + 1) (.loop (rc (if jump.isNone then .ready else .done) jump))) ∧
        V.heap[w.heap.size + 1]? = some (.loop (rc .busy none)) ∧
        (V.putObj (w.heap.size + 1) (.loop (rc (if jump.isNone then .ready else .done) jump))).heap[w.heap.size + 1]? = some (.loop (rc (if jump.isNone then .ready else .done) jump)) ∧
        (V.putObj (w.heap.size + 1) (.loop (rc (if jump.isNone then .ready else .done) jump))).heap[w.heap.size]? = some d0 := fun jump V hk => by
      have hl3 := hk.same _ _ (Nat.le_succ _) hl2 rfl
      exact ⟨run_endRound (P := P) jump hl3, hl3, World.putObj_heap_same (Array.getElem?_eq_some_iff.1 hl3).1, (World.putObj_heap_other (by omega)).trans (hk.same _ _ (Nat.le_refl _) hd2 rfl)⟩
    have left : ∀ (c : Code) (V : World), KeepsFrom w.heap.size U2 V ∧ Z c V → ∃ x V', (Instr.endRound (w.heap.size + 1) (some c)).run P V = .ok x V' ∧ ((Ending.returned x = .returned (.bool true) ∧ A s V' ∧ V'.heap[w.heap.size + 1]? = some (.loop (rc .ready none)) ∧ V'.heap[w.heap.size]? = some d0) ∨
        (Ending.returned x = .returned (.bool false) ∧ ∃ c, Z c V' ∧ V'.heap[w.heap.size + 1]? = some (.loop (rc .done (some c))) ∧ V'.heap[w.heap.size]? = some d0)) := fun c V ⟨hk, hz⟩ => by
      obtain ⟨hr, hl3, hl4, hd4⟩ := ends (some c) V hk
      exact ⟨_, _, hr, .inr ⟨rfl, c, (hZ c).put _ hz (Nat.le_succ _) hl3 rfl, hl4, hd4⟩⟩
    refine wpIn_mono (hbody _ s U2 (Nat.lt_succ_self _) hB2) ?_
    intro e a3 V hp
    cases e with
    | normal =>
      obtain ⟨hk, ha⟩ := hp
      obtain ⟨hr, hl3, hl4, hd4⟩ := ends none V hk
      exact ⟨_, _, hr, .inl ⟨rfl, (hA s).put _ ha (Nat.le_succ _) hl3 rfl, hl4, hd4⟩⟩
    | ret => exact left .ret V hp
    | exit id => exact left (.exit id) V hp
    | goto t => exact left (.goto t) V hp
    | panic ch => exact hp.elim
    | outgrown => exact hp.elim
  · -- behind the iterator
    rintro e V ⟨⟨v, rfl⟩, (⟨he, hl, hd⟩ | ⟨c, hz, hl, hd⟩)⟩
    · exact ⟨none, _, run_endLoop (P := P) hl (by simp [rc]), hdone _ _ (Nat.le_refl _) (hE.put _ he (Nat.le_succ _) hl rfl) ((World.putObj_heap_other (by omega)).trans hd)⟩
    · exact ⟨some c, _, run_endLoop (P := P) hl (by simp [rc]), hstop _ c _ (Nat.le_refl _) ((hZ c).put _ hz (Nat.le_succ _) hl rfl) ((World.putObj_heap_other (by omega)).trans hd)⟩
end Go.Proofs.YtgobclmihppopabDoor

/- natdiv's two iterators over a list of words, whose words may be written while they are gone through. -/
namespace Go.Proofs.YtgobclmihppopabDoor
open Go.RowKit Go.Shelf

attribute [local go_sem] Oper.semAt_some

set_option maxRecDepth 100000 in
set_option maxHeartbeats 2000000 in
theorem nup_st (F : Fence) (n : Nat) (hf : F.fn 52) (hro : F.round = none) (hn : 1 ≤ n) (l Bs b off cap len : Nat) (a : Option Addr) (ha : 0 < len → a = some ⟨b, off, none⟩) (hreach : len ≤ 9223372036854775807) (vals : Nat → Int) (Inv : Nat → World → Prop) (X : World → Prop) (Z Xz : Code → World → Prop)
    (hcl : ∀ k W, k ≤ len → Inv k W → W.cell? ⟨Bs, 0, none⟩ = some (.slice a len cap))
    (hc : ∀ k W, k < len → Inv k W → W.cell? ⟨b, off + k, none⟩ = some (.int .u64 (vals k)))
    (hY : ∀ k U, k < len → Inv k U → X U → YieldAt F (n - 1) Tryd.prog l #[.int .i64 (k : Nat), .int .u64 (vals k)] U fun e V => (e = .returned (.bool true) ∧ Inv (k + 1) V ∧ X V) ∨ (e = .returned (.bool false) ∧ ∃ c, Z c V ∧ Xz c V))
    (W : World) (h0 : Inv 0 W) (hX : X W) :
    CallsIn F n Tryd.prog 52 #[.func (.yield l) #[] #[], .pointer (some ⟨Bs, 0, none⟩)] W fun e V => (∃ v, e = .returned v) ∧ ((Inv len V ∧ X V) ∨ ∃ c, Z c V ∧ Xz c V) := by
  have h00 := hcl 0 W (Nat.zero_le _) h0
  refine callsIn_of_wp Tryd.func52 rfl hf ?_ hro
  simp only [Tryd.ntmps52, List.size_toArray, List.length_cons, List.length_nil, Nat.reduceAdd, Nat.reduceSub, Array.replicate_succ, Array.replicate_zero, List.push_toArray, List.append_toArray, List.nil_append, List.cons_append]
  gi_wp2
  gi_loopw [3] (fun i wr => ∃ k : Nat, k ≤ len ∧ (i = .int .i64 k) ∧ Inv k wr ∧ X wr) (fun i _ => len - (intOf i).toNat)
  case atStart => exact ⟨0, Nat.zero_le _, rfl, h0, hX⟩
  case round =>
    obtain ⟨k, hk, rfl, hIk, hXk⟩ := hrel
    have hcb := hcl k wr hk hIk
    clear h00
    by_cases hlt : k < len
    · obtain rfl := ha (by omega)
      obtain ⟨fn, tmps, assign, body, hy, hR⟩ := hY k wr hlt hIk hXk
      try dsimp only at hy
      have hcx := hc k wr hlt hIk
      gi_wp2
      refine hR.mono ?_
      rintro e W3 (⟨rfl, hI3, hX3⟩ | ⟨rfl, hZ3⟩)
      · gi_wp2
        go_roundw
        case rel => exact ⟨k + 1, by omega, by simp, hI3, hX3⟩
        case measure => simp [intOf]; omega
      · gi_wp2
        refine bodyPost_ret (results_none rfl _ _ _) rfl ?_
        exact ⟨⟨_, rfl⟩, .inr hZ3⟩
    · obtain rfl : k = len := by omega
      skip
      gi_wp2
      go_end0
      exact ⟨⟨_, rfl⟩, .inl ⟨hIk, hXk⟩⟩

set_option maxRecDepth 100000 in
set_option maxHeartbeats 2000000 in
theorem ndown_st (F : Fence) (n : Nat) (hf : F.fn 57) (hro : F.round = none) (hn : 1 ≤ n) (l Bs b off cap len : Nat) (a : Option Addr) (ha : 0 < len → a = some ⟨b, off, none⟩) (hreach : len ≤ 9223372036854775807) (vals : Nat → Int) (Inv : Nat → World → Prop) (X : World → Prop) (Z Xz : Code → World → Prop)
    (hcl : ∀ k W, k ≤ len → Inv k W → W.cell? ⟨Bs, 0, none⟩ = some (.slice a len cap))
    (hc : ∀ k W, k < len → Inv k W → W.cell? ⟨b, off + (len - 1 - k), none⟩ = some (.int .u64 (vals k)))
    (hY : ∀ k U, k < len → Inv k U → X U → YieldAt F (n - 1) Tryd.prog l #[.int .i64 ((len - 1 - k) : Nat), .int .u64 (vals k)] U fun e V => (e = .returned (.bool true) ∧ Inv (k + 1) V ∧ X V) ∨ (e = .returned (.bool false) ∧ ∃ c, Z c V ∧ Xz c V))
    (W : World) (h0 : Inv 0 W) (hX : X W) :
    CallsIn F n Tryd.prog 57 #[.func (.yield l) #[] #[], .pointer (some ⟨Bs, 0, none⟩)] W fun e V => (∃ v, e = .returned v) ∧ ((Inv len V ∧ X V) ∨ ∃ c, Z c V ∧ Xz c V) := by
  have h00 := hcl 0 W (Nat.zero_le _) h0
  refine callsIn_of_wp Tryd.func57 rfl hf ?_ hro
  simp only [Tryd.ntmps57, List.size_toArray, List.length_cons, List.length_nil, Nat.reduceAdd, Nat.reduceSub, Array.replicate_succ, Array.replicate_zero, List.push_toArray, List.append_toArray, List.nil_append, List.cons_append]
  gi_wp2
  gi_loopw [3] (fun i wr => ∃ k : Nat, k ≤ len ∧ (∃ z : Int, i = .int .i64 z ∧ z + k + 1 = len) ∧ Inv k wr ∧ X wr) (fun i _ => (intOf i + 1).toNat)
  case atStart => exact ⟨0, Nat.zero_le _, ⟨_, rfl, by omega⟩, h0, hX⟩
  case round =>
    obtain ⟨k, hk, ⟨z, rfl, hz⟩, hIk, hXk⟩ := hrel
    have hcb := hcl k wr hk hIk
    clear h00
    by_cases hlt : k < len
    · obtain rfl := ha (by omega)
      obtain ⟨fn, tmps, assign, body, hy, hR⟩ := hY k wr hlt hIk hXk
      try dsimp only at hy
      have hcx := hc k wr hlt hIk
      obtain ⟨j, hj⟩ : ∃ j : Nat, j = len - 1 - k := ⟨_, rfl⟩
      rw [← hj] at hcx hy
      obtain rfl : z = (j : Int) := by omega
      have hjl : j < len := by omega
      have HZ : Hid ((j : Int) - 1 + ((k + 1 : Nat) : Int) + 1 = len) := Lib.hid (by omega)
      clear hj hz
      gi_wp2
      refine hR.mono ?_
      rintro e W3 (⟨rfl, hI3, hX3⟩ | ⟨rfl, hZ3⟩)
      · gi_wp2
        go_roundw
        case rel => exact ⟨k + 1, by omega, ⟨_, rfl, HZ.out⟩, hI3, hX3⟩
        case measure => simp [intOf]
      · gi_wp2
        refine bodyPost_ret (results_none rfl _ _ _) rfl ?_
        exact ⟨⟨_, rfl⟩, .inr hZ3⟩
    · obtain rfl : k = len := by omega
      obtain rfl : z = -1 := by omega
      gi_wp2
      go_end0
      exact ⟨⟨_, rfl⟩, .inl ⟨hIk, hXk⟩⟩

theorem nup_in (F : Fence) (n : Nat) (hf : F.fn 41) (hro : F.round = none) (a : Option Addr) (len cap : Nat) (w : World) :
    CallsIn F n Tryd.prog 41 #[.slice a len cap] w fun e w' => e = .returned (.func (.func 52) #[] #[.pointer (some ⟨w.heap.size, 0, none⟩)]) ∧ w' = w.alloc (.cells #[.slice a len cap] 24) := by
  refine callsIn_of_wp Tryd.func41 rfl hf ?_ hro
  simp only [Tryd.ntmps41, List.size_toArray, List.length_cons, List.length_nil, Nat.reduceAdd, Nat.reduceSub, Array.replicate_succ, Array.replicate_zero, List.push_toArray, List.append_toArray, List.nil_append, List.cons_append]
  gi_wp2
  go_ret
  exact ⟨rfl, rfl⟩
theorem ndown_in (F : Fence) (n : Nat) (hf : F.fn 53) (hro : F.round = none) (a : Option Addr) (len cap : Nat) (w : World) :
    CallsIn F n Tryd.prog 53 #[.slice a len cap] w fun e w' => e = .returned (.func (.func 57) #[] #[.pointer (some ⟨w.heap.size, 0, none⟩)]) ∧ w' = w.alloc (.cells #[.slice a len cap] 24) := by
  refine callsIn_of_wp Tryd.func53 rfl hf ?_ hro
  simp only [Tryd.ntmps53, List.size_toArray, List.length_cons, List.length_nil, Nat.reduceAdd, Nat.reduceSub, Array.replicate_succ, Array.replicate_zero, List.push_toArray, List.append_toArray, List.nil_append, List.cons_append]
  gi_wp2
  go_ret
  exact ⟨rfl, rfl⟩
end Go.Proofs.YtgobclmihppopabDoor
