/- A block of words that a call has made: its cells are known whole. -/
import Derived.Test.YtdcebkhdnhdejaaCmp
import Derived.Test.YtdcebkhdnhdejaaNum
import Derived.Laws.MakeOwn
import Derived.Laws.OwnMore
import Derived.Deep.RegionHeld3
namespace Go.Proofs.Ytdcebkhdnhdejaa
open Go.RowKit Go.Shelf

def cellsOf (k : IntKind) (s : List Nat) : Array Value := (s.map fun (x : Nat) => Value.int k (x : Int)).toArray
/-- block S is just the numbers s, of kind k, of element type t -/
def Row (k : IntKind) (t : TypeId) (W : World) (S : Nat) (s : List Nat) : Prop := W.heap[S]? = some (.cells (cellsOf k s) t (0, 0))
theorem cellsOf_get {k : IntKind} {s : List Nat} {i : Nat} (h : i < s.length) : (cellsOf k s)[i]? = some (.int k (lim s i : Int)) := by
  simp [cellsOf, lim, List.getElem?_eq_getElem h]
theorem cellsOf_set (k : IntKind) (s : List Nat) (i v : Nat) : (cellsOf k s).setIfInBounds i (.int k (v : Int)) = cellsOf k (s.set i v) := by
  simp [cellsOf, List.map_set]
section
variable {k : IntKind} {t : TypeId} {W W' : World} {S : Nat} {s : List Nat}
theorem Row.lt (h : Row k t W S s) : S < W.heap.size := (Array.getElem?_eq_some_iff.1 h).1
theorem Row.cell (h : Row k t W S s) {i : Nat} (hi : i < s.length) : W.cell? ⟨S, i, none⟩ = some (.int k (lim s i : Int)) := by
  rw [cell_of_row W S i _ t (0, 0) h, cellsOf_get hi]
theorem Row.frozen (h : Row k t W S s) (i : Nat) : W.frozen? ⟨S, i, none⟩ = false := by
  simp [World.frozen?, show W.heap[S]? = _ from h]
theorem Row.new (W : World) (k : IntKind) (t : TypeId) (s : List Nat) : Row k t (W.alloc (.cells (cellsOf k s) t)) W.heap.size s := World.alloc_heap_new W _
theorem Row.alloc (h : Row k t W S s) (o : Obj) : Row k t (W.alloc o) S s := (Below.heap_alloc W o S h.lt).trans h
theorem Row.drew (h : Row k t W S s) : Row k t W.drew S s := h
theorem Row.set (h : Row k t W S s) (i v : Nat) : Row k t (W.setCell ⟨S, i, none⟩ (.int k (v : Int))) S (s.set i v) := by
  unfold Row at h ⊢
  simp [World.setCell, Array.getElem?_modify, h, cellsOf_set]
theorem Row.far (h : Row k t W S s) {p : Addr} (hp : S ≠ p.block) (u : Value) : Row k t (W.setCell p u) S s := (Below.heap_setCell W p u S hp).trans h
theorem Row.below {B : Nat} (h : Row k t W S s) (hb : Below B W W') (hg : S < B) : Row k t W' S s := (hb.block S hg).trans h
theorem Row.behind (h : Row k t W S s) (hb : Below W.heap.size W W') : Row k t W' S s := h.below hb h.lt
theorem Row.put (h : Row k t W S s) {D : Nat} (hD : S ≠ D) (o : Obj) : Row k t (W.putObj D o) S s := (World.putObj_heap_other hD).trans h
theorem Row.rd (h : Row .u64 t W S s) (cap : Nat) (hc : s.length ≤ cap) : RdAt S W (.slice (some ⟨S, 0, none⟩) s.length cap) s :=
  .inr ⟨0, cap, rfl, hc, fun j hj => by rw [Nat.zero_add]; exact h.cell hj⟩
end
theorem _root_.Go.Boxed.far {W : World} {B : Nat} {t : TypeId} {v : Value} (h : Boxed W B t v) {p : Addr} (hp : B ≠ p.block) (u : Value) : Boxed (W.setCell p u) B t v := (Below.heap_setCell W p u B hp).trans h
theorem _root_.Go.Boxed.put {W : World} {B : Nat} {t : TypeId} {v : Value} (h : Boxed W B t v) {D : Nat} (hD : B ≠ D) (o : Obj) : Boxed (W.putObj D o) B t v := (World.putObj_heap_other hD).trans h
theorem Keep.set {b c : Nat} {X W : World} (h : Keep b c X W) {p : Addr} (hb : b ≠ p.block) (hc : c ≠ p.block) (u : Value) : Keep b c X (W.setCell p u) :=
  ⟨(Below.heap_setCell W p u b hb).trans h.1, (Below.heap_setCell W p u c hc).trans h.2⟩
theorem Keep.drew {b c : Nat} {X W : World} (h : Keep b c X W) : Keep b c X W.drew := h
theorem row_own {β : Type} (k : IntKind) (t : TypeId) (S : Nat) (f : β → List Nat) : Own (fun s W => Row k t W S (f s)) := fun s X Y row hs hg hrow => by
  refine (hg.block S hs.lt (fun e => ?_)).trans hs
  obtain ⟨o, ho, hc⟩ := hrow S e.symm
  rw [show X.heap[S]? = _ from hs] at ho
  cases ho
  cases hc
theorem made_cells (k : IntKind) (n : Nat) : madeCells #[.int k 0] n = cellsOf k (List.replicate n 0) := by
  apply Array.toList_inj.1
  rw [toList_madeCells_one]
  simp [cellsOf]
theorem info_u64 : (Try.prog.info? 32).map (fun i => (i.zero, i.size, i.bytes)) = some (some (.int .u64 0), 1, 8) := by kernel_rfl
theorem info_int : (Try.prog.info? 3).map (fun i => (i.zero, i.size, i.bytes)) = some (some (.int .i64 0), 1, 8) := by kernel_rfl
/-- make([]uint64, n) -/
theorem make_u64 (n : Nat) (hn : n ≤ 35184372088832) (u : World) : (Instr.makeSlice 22 (.int .i64 (n : Int)) (.int .i64 (n : Int))).run Try.prog u =
    .ok (.slice (some ⟨u.heap.size, 0, none⟩) n n) (u.alloc (.cells (cellsOf .u64 (List.replicate n 0)) 32)) := by
  obtain ⟨i0, hi, hz0, hz1, hz2⟩ := info_parts info_u64
  have h := run_make (P := Try.prog) u 22 32 i0 (.int .u64 0) Try.underlying22 hi hz0 .i64 .i64 n n (by omega) (Int.le_refl _) (by rw [hz2]; omega) (by omega)
  rw [h, hz1]
  simp [Value.cells, made_cells]
end Go.Proofs.Ytdcebkhdnhdejaa

/- A region that draws its order, inside a round of a range over a function: by the plain calculus of regions, where nothing in it defers. -/
namespace Go.Proofs.Ytdcebkhdnhdejaa
open Go.RowKit Go.Shelf

def noDefer (ops : Array Oper) : Bool := ops.all fun o => match o.op with | .defer _ => false | _ => true
theorem noDefer_spec {ops : Array Oper} (h : noDefer ops = true) {i : Nat} {o : Oper} (ho : ops[i]? = some o) : ∀ c, o.op ≠ .defer c := by
  intro c hc
  have h2 := (Array.all_eq_true'.1 h) o (Array.mem_of_getElem? ho)
  rw [hc] at h2
  cases h2
theorem rowsIn_of {n : Nat} {P : Program} {row : String} {args : Array Value} {w : World} {R : Value → World → Prop} (h : Rows P row args w R) : RowsIn Fence.wide n P row args w R := by
  intro c cs _
  obtain ⟨v, w', hr, hs⟩ := h c cs
  exact ⟨v, w', hr, (StepsIn.of_steps hs).mono fun m _ => fenced_wide P m⟩
theorem wpOpIn_of {l n : Nat} {P : Program} {ops : Array Oper} {Q : Exit → Act → World → Prop} (hno : ¬ LetsOut Q) (hnd : noDefer ops = true) {i : Nat} {K K' : Act → World → Prop} (hK : ∀ a w, K a w → K' a w) {a : Act} {w : World}
    (h : wpOp P ops Q i K a w) : wpOpIn (Fence.wide.inRound l) n P ops Q i K' a w := by
  unfold wpOp at h
  unfold wpOpIn
  cases ho : ops[i]? with
  | none => simp only [ho] at h ⊢; exact hK _ _ h
  | some o =>
    simp only [ho] at h ⊢
    split
    · rename_i hw
      simp only [hw, if_true] at h
      rcases h with h | h
      · unfold Oper.wp at h
        unfold Oper.wpIn
        refine ⟨fun _ _ => trivial, ?_⟩
        rw [show (o.semAt (Fence.wide.inRound l).round a.eval) = execOp a.eval o from Oper.semAt_some l _ _ (noDefer_spec hnd ho)]
        generalize (execOp a.eval o).run P w = r at h ⊢
        cases r with
        | ok x w' =>
          cases x <;> simp only [Oper.upon, Oper.uponIn] at h ⊢
          case value v => exact hK _ _ h
          case skip => exact hK _ _ h
          case defer d => exact hK _ _ h
          case enter f args =>
            refine ⟨fun h => (by cases h), ?_⟩
            refine CallsIn.inRound l (callsIn_wide.2 (h.mono ?_))
            intro e w'' he
            cases e with
            | returned v => exact hK _ _ he
            | panicked c => exact he
            | outgrown => exact he
          case row row args =>
            refine ⟨fun h => (by cases h), fun c cs hr => ?_⟩
            obtain ⟨v, w'', hr', hs⟩ := rowsIn_of (n := n - 1) h c cs hr
            exact ⟨v, w'', hK _ _ hr', hs⟩
        | halt x w' => cases x <;> simp only [Oper.upon, Oper.uponIn] at h ⊢ <;> exact h
      · exact absurd h.2 hno
    · rename_i hw
      simp only [hw] at h
      exact ⟨fun _ _ => trivial, hK _ _ h⟩
theorem wpAnyIn_of {l n : Nat} {P : Program} {ops : Array Oper} {md : Region.Mode} {Q : Exit → Act → World → Prop} (hno : ¬ LetsOut Q) (hnd : noDefer ops = true) : ∀ (fuel : Nat) (listed : Array Bool) (a : Act) (w : World),
    wpAny P md ops Q fuel listed a w → wpAnyIn (Fence.wide.inRound l) n P md ops Q fuel listed a w
  | 0, _, _, _, h => h
  | fuel + 1, _, _, _, h => ⟨h.1, fun i hi => wpOpIn_of hno hnd (fun a w => wpAnyIn_of hno hnd fuel _ a w) (h.2 i hi)⟩
theorem region_round {l n : Nat} {P : Program} {id : Nat} {ops : Array Oper} {Q : Exit → Act → World → Prop} {a : Act} {w : World} (hm : P.follows .mixedOrders = true) (hnd : noDefer ops = true) (hno : ¬ LetsOut Q)
    (S : World → Prop) (hS : S w.drew) (h : S w.drew → wpAnyH P .any ops Q S ops.size (Array.replicate ops.size false) a w.drew) : (Code.region id ops true).wpIn (Fence.wide.inRound l) n P Q a w :=
  wpIn_region_any hm (wpAnyIn_of hno hnd _ _ _ _ (wpAny_of_held _ _ _ _ (h hS)))
end Go.Proofs.Ytdcebkhdnhdejaa
