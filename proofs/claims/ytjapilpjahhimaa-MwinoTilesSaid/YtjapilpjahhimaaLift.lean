/- From a law's walk to its row: the arguments as they come in, and as they are left. -/
import Derived.Test.YtjapilpjahhimaaRows
import Derived.Test.YtjapilpjahhimaaArg
import Derived.ProofKit
import Derived.OpenShut
import Derived.Carry
import Derived.Deep.DeepHandedRow
import Derived.SizedLaws
import Derived.LaidLaws
import Derived.ChangeArms
import Derived.Lib.SmallJoins
namespace Go.Proofs.Ytjapilpjahhimaa
open Go.ChangeShapes Go.WideShapes Go.ChangeAt Go.RowKit Go.Shelf

set_option maxRecDepth 100000 in
theorem own : ownKnob Try.prog.godebug = none := by kernel_rfl
set_option maxRecDepth 100000 in
theorem laidOut : laidOutB Try.prog = true := by kernel_rfl
set_option maxRecDepth 100000 in
theorem cells_u64 : Try.prog.cellsOf 49 = 1 := by kernel_rfl
set_option maxRecDepth 100000 in
theorem bytes_u64 : Try.prog.bytesOf 49 = 8 := by kernel_rfl
set_option maxRecDepth 100000 in
theorem readable_u64s : Try.prog.readableRec 22 = true := by kernel_rfl
set_option maxRecDepth 100000 in
theorem typed_u64s : 22 < Try.prog.types.size := of_decide_eq_true (by kernel_rfl)
set_option maxRecDepth 100000 in
theorem begun : decide (Try.prog.globals.size < (begin Try.prog (fun _ _ => 0) default).world.heap.size) = true := by kernel_rfl
set_option maxRecDepth 100000 in
theorem heap_pos {W : World} (h : W.ShapedOpen Try.prog) : 0 < W.heap.size := by
  obtain ⟨o, _, ho, _⟩ := h.2 _ (Nat.le_refl _) (of_decide_eq_true begun)
  exact Nat.lt_of_le_of_lt (Nat.zero_le _) (Array.getElem?_eq_some_iff.1 ho).1

section
variable {H : Type} {enc : TypeId × Value → H}
set_option maxRecDepth 100000 in
theorem u64_wf {z : Int} (h : (Lit.int .u64 z).wf = true) : 0 ≤ z ∧ z < 18446744073709551616 := by
  have : 0 ≤ z ∧ z ≤ 18446744073709551615 := by simpa [Lit.wf, IntKind.min, IntKind.max, IntKind.signed, IntKind.bits] using h
  omega
set_option maxRecDepth 100000 in
/-- a list that comes in -/
theorem open_arg {W : World} {base : Nat} {v : Value} {d : DataW H} {ps : List MemPlace} (h0 : 0 < W.heap.size) (hok : Value.okWide Try.prog W .any base 22 v) (h : DataW.Trod enc Try.prog W 0 (fun _ => true) true 22 v d ps) :
    ∃ xs, Arg W v xs ∧ Low 18446744073709551616 xs ∧ (xs = [] ∨ ∃ elems spare, d = .slice elems spare ∧ elems.length = xs.length) := by
  obtain ⟨a0, len, cap, rfl⟩ := okWide_slice Try.underlying22 hok
  obtain ⟨fuel, hf⟩ := h
  rcases open_ints Try.underlying22 Try.underlying49 cells_u64 hf with ⟨hcs, hx⟩ | ⟨a, len', cap', zs, hcs, _, hl, hm, hz, hx, hcell, hwz⟩
  · simp [Value.cells] at hcs
    obtain ⟨rfl, rfl, rfl⟩ := hcs
    exact ⟨[], ⟨0, h0, .inl ⟨⟨_, _, rfl⟩, rfl⟩⟩, (by intro x hx; cases hx), .inl rfl⟩
  · simp [Value.cells] at hcs
    obtain ⟨rfl, rfl, rfl⟩ := hcs
    simp only [Prod.mk.injEq] at hx
    obtain ⟨rfl, rfl⟩ := hx
    simp only [if_true] at hz
    have hlen : ((zs.take len).map Int.toNat).length = len := by simp; omega
    have hlow : Low 18446744073709551616 ((zs.take len).map Int.toNat) := by
      intro x hx
      obtain ⟨z, hz', rfl⟩ := List.mem_map.1 hx
      have := u64_wf (hwz z (List.mem_of_mem_take hz'))
      omega
    have hd : (lits (H := H) .u64 (zs.take len)).length = ((zs.take len).map Int.toNat).length := by simp [lits]
    refine ⟨(zs.take len).map Int.toNat, ?_, hlow, .inr ⟨_, _, rfl, hd⟩⟩
    by_cases hz0 : 0 < zs.length
    · obtain ⟨b, off, rfl, hc⟩ := ints_at hcell hz0
      have hb : b < W.heap.size := by
        have h1 := hc 0 hz0
        obtain ⟨o, ho, _⟩ := cells_of_cell h1
        exact (Array.getElem?_eq_some_iff.1 ho).1
      refine ⟨b, hb, .inr ⟨off, cap, by rw [hlen], by rw [hlen]; exact hl, fun j hj => ?_⟩⟩
      rw [hlen] at hj
      have hj' : j < zs.length := by omega
      rw [hc j hj']
      have hzj := u64_wf (hwz _ (List.getElem_mem hj'))
      have e1 : zs.getD j 0 = zs[j] := by simp [List.getD, hj']
      have e2 : (lim ((zs.take len).map Int.toNat) j : Int) = zs[j] := by
        unfold lim
        simp [hj, hj']
        omega
      rw [e1, e2]
    · have hz1 : zs = [] := List.eq_nil_of_length_eq_zero (by omega)
      subst hz1
      have : len = 0 := by simp at hz; omega
      subst this
      exact ⟨0, h0, .inl ⟨⟨_, _, rfl⟩, by simp⟩⟩
set_option maxRecDepth 100000 in
theorem all_stay {ts : List TypeId} {W W' : World} (hb : Below W.heap.size W W') (hr : ∀ t ∈ ts, t = 22) :
    ∀ {vs : List Value} {ds : List (DataW H)} {ps : List MemPlace}, DataW.TrodAll enc Try.prog W 0 (fun _ => true) true ts vs ds ps → (∀ x ∈ ps, x.block < W.heap.size) →
      DataW.TrodAll enc Try.prog W' 0 (fun b => decide (b < W.heap.size)) true ts vs ds ps := by
  induction ts with
  | nil =>
    intro vs ds ps h _
    obtain ⟨rfl, rfl, rfl⟩ := trodAll_nil h
    exact trodAll_mk0
  | cons t ts ih =>
    intro vs ds ps h hlt
    obtain ⟨v, vs', d, ds', p, q, rfl, rfl, rfl, h1, h2⟩ := trodAll_cons h
    obtain rfl := hr t (List.mem_cons_self ..)
    exact trodAll_cons_mk (Below.trod laidOut readable_u64s typed_u64s h1 hb (fun x hx => hlt x (List.mem_append_left _ hx))) (ih (fun t ht => hr t (List.mem_cons_of_mem _ ht)) h2 (fun x hx => hlt x (List.mem_append_right _ hx)))
end
end Go.Proofs.Ytjapilpjahhimaa

/- What the bound of the second form gives: how long a list can be. -/
namespace Go.Proofs.Ytjapilpjahhimaa

set_option maxRecDepth 100000 in
theorem bulk_pos {H : Type} (d : DataW H) : 0 < Rows.uptoBulk d := by
  cases d <;> first
    | (rename_i l; cases l <;> (simp only [Rows.uptoBulk]; omega))
    | (simp only [Rows.uptoBulk]; omega)
set_option maxRecDepth 100000 in
theorem bulk_all {H : Type} : ∀ l : List (DataW H), l.length ≤ Rows.uptoBulkAll l
  | [] => Nat.zero_le _
  | d :: r => by
    have h1 := bulk_pos d
    have h2 := bulk_all r
    simp only [List.length_cons, Rows.uptoBulkAll]
    omega
set_option maxRecDepth 100000 in
theorem bulk_le {H : Type} (elems spare : List (DataW H)) : elems.length ≤ Rows.uptoBulk (.slice elems spare) := by
  have h := bulk_all elems
  simp only [Rows.uptoBulk]
  omega
end Go.Proofs.Ytjapilpjahhimaa

/- From a law's walk to its row: ints, and arguments of any kind that stay. -/
namespace Go.Proofs.Ytjapilpjahhimaa
open Go.ChangeShapes Go.WideShapes Go.ChangeAt Go.RowKit Go.Shelf

set_option maxRecDepth 100000 in
theorem readable_int : Try.prog.readableRec 3 = true := by kernel_rfl
set_option maxRecDepth 100000 in
theorem typed_int : 3 < Try.prog.types.size := of_decide_eq_true (by kernel_rfl)
set_option maxRecDepth 100000 in
theorem i64_wf {z : Int} (h : (Lit.int .i64 z).wf = true) : -9223372036854775808 ≤ z ∧ z < 9223372036854775808 := by
  have : -9223372036854775808 ≤ z ∧ z ≤ 9223372036854775807 := by simpa [Lit.wf, IntKind.min, IntKind.max, IntKind.signed, IntKind.bits] using h
  omega
set_option maxRecDepth 100000 in
theorem open_i64 {H : Type} {enc : TypeId × Value → H} {W : World} {base : Nat} {v : Value} {d : DataW H} {ps : List MemPlace} (hok : Value.okWide Try.prog W .any base 3 v) (h : DataW.Trod enc Try.prog W 0 (fun _ => true) true 3 v d ps) :
    ∃ z, v = .int .i64 z ∧ d = .lit (.int .i64 z) ∧ -9223372036854775808 ≤ z ∧ z < 9223372036854775808 := by
  obtain ⟨n, h1, h2, _, h3⟩ := open_int Try.underlying3 hok h
  exact ⟨n, h1, h2, i64_wf h3⟩
section
variable {H : Type} {enc : TypeId × Value → H}
set_option maxRecDepth 100000 in
theorem all_keep {ts : List TypeId} {W W' : World} (hb : Below W.heap.size W W') (hr : ∀ t ∈ ts, Try.prog.readableRec t = true ∧ t < Try.prog.types.size) :
    ∀ {vs : List Value} {ds : List (DataW H)} {ps : List MemPlace}, DataW.TrodAll enc Try.prog W 0 (fun _ => true) true ts vs ds ps → (∀ x ∈ ps, x.block < W.heap.size) →
      DataW.TrodAll enc Try.prog W' 0 (fun b => decide (b < W.heap.size)) true ts vs ds ps := by
  induction ts with
  | nil =>
    intro vs ds ps h _
    obtain ⟨rfl, rfl, rfl⟩ := trodAll_nil h
    exact trodAll_mk0
  | cons t ts ih =>
    intro vs ds ps h hlt
    obtain ⟨v, vs', d, ds', p, q, rfl, rfl, rfl, h1, h2⟩ := trodAll_cons h
    obtain ⟨r1, r2⟩ := hr t (List.mem_cons_self ..)
    exact trodAll_cons_mk (Below.trod laidOut r1 r2 h1 hb (fun x hx => hlt x (List.mem_append_left _ hx))) (ih (fun t ht => hr t (List.mem_cons_of_mem _ ht)) h2 (fun x hx => hlt x (List.mem_append_right _ hx)))
end
end Go.Proofs.Ytjapilpjahhimaa

/- From a law's walk to its row: words, ints, bools. -/
namespace Go.Proofs.Ytjapilpjahhimaa
open Go.ChangeShapes Go.WideShapes Go.ChangeAt Go.RowKit Go.Shelf
set_option maxRecDepth 100000 in
theorem readable_w64 : Try.prog.readableRec 49 = true := by kernel_rfl
set_option maxRecDepth 100000 in
theorem typed_w64 : 49 < Try.prog.types.size := of_decide_eq_true (by kernel_rfl)
set_option maxRecDepth 100000 in
theorem readable_bool : Try.prog.readableRec 4 = true := by kernel_rfl
set_option maxRecDepth 100000 in
theorem typed_bool : 4 < Try.prog.types.size := of_decide_eq_true (by kernel_rfl)
set_option maxRecDepth 100000 in
theorem open_w64 {H : Type} {enc : TypeId × Value → H} {W : World} {base : Nat} {v : Value} {d : DataW H} {ps : List MemPlace} (hok : Value.okWide Try.prog W .any base 49 v) (h : DataW.Trod enc Try.prog W 0 (fun _ => true) true 49 v d ps) :
    ∃ a : Nat, v = .int .u64 (a : Int) ∧ d = .lit (.int .u64 (a : Int)) ∧ (a : Int) ≤ 18446744073709551615 := by
  obtain ⟨n, h1, h2, _, h3⟩ := open_int Try.underlying49 hok h
  obtain ⟨k1, k2⟩ := u64_wf h3
  obtain ⟨a, rfl⟩ : ∃ a : Nat, n = (a : Int) := ⟨n.toNat, by omega⟩
  exact ⟨a, h1, h2, by omega⟩
set_option maxRecDepth 100000 in
theorem open_tf {H : Type} {enc : TypeId × Value → H} {W : World} {base : Nat} {v : Value} {d : DataW H} {ps : List MemPlace} (hok : Value.okWide Try.prog W .any base 4 v) (h : DataW.Trod enc Try.prog W 0 (fun _ => true) true 4 v d ps) :
    ∃ b : Bool, v = .bool b ∧ d = .lit (.bool b) := by
  obtain ⟨b, h1, h2, _⟩ := open_bool Try.underlying4 hok h
  exact ⟨b, h1, h2⟩
set_option maxRecDepth 100000 in
theorem readable_w32 : Try.prog.readableRec 151 = true := by kernel_rfl
set_option maxRecDepth 100000 in
theorem typed_w32 : 151 < Try.prog.types.size := of_decide_eq_true (by kernel_rfl)
set_option maxRecDepth 100000 in
theorem open_w32 {H : Type} {enc : TypeId × Value → H} {W : World} {base : Nat} {v : Value} {d : DataW H} {ps : List MemPlace} (hok : Value.okWide Try.prog W .any base 151 v) (h : DataW.Trod enc Try.prog W 0 (fun _ => true) true 151 v d ps) :
    ∃ a : Nat, v = .int .u32 (a : Int) ∧ d = .lit (.int .u32 (a : Int)) ∧ (a : Int) ≤ 4294967295 := by
  obtain ⟨n, h1, h2, _, h3⟩ := open_int Try.underlying151 hok h
  have : 0 ≤ n ∧ n ≤ 4294967295 := by simpa [Lit.wf, IntKind.min, IntKind.max, IntKind.signed, IntKind.bits] using h3
  obtain ⟨a, rfl⟩ : ∃ a : Nat, n = (a : Int) := ⟨n.toNat, by omega⟩
  exact ⟨a, h1, h2, this.2⟩
set_option maxRecDepth 100000 in
theorem readable_t32 : Try.prog.readableRec 21 = true := by kernel_rfl
set_option maxRecDepth 100000 in
theorem typed_t32 : 21 < Try.prog.types.size := of_decide_eq_true (by kernel_rfl)
set_option maxRecDepth 100000 in
theorem open_t32 {H : Type} {enc : TypeId × Value → H} {W : World} {base : Nat} {v : Value} {d : DataW H} {ps : List MemPlace} (hok : Value.okWide Try.prog W .any base 21 v) (h : DataW.Trod enc Try.prog W 0 (fun _ => true) true 21 v d ps) :
    ∃ z, v = .int .i32 z ∧ d = .lit (.int .i32 z) ∧ -2147483648 ≤ z ∧ z < 2147483648 := by
  obtain ⟨n, h1, h2, _, h3⟩ := open_int Try.underlying21 hok h
  have : -2147483648 ≤ n ∧ n ≤ 2147483647 := by simpa [Lit.wf, IntKind.min, IntKind.max, IntKind.signed, IntKind.bits] using h3
  exact ⟨n, h1, h2, by omega⟩
end Go.Proofs.Ytjapilpjahhimaa

/- From a law's walk to its row, where a matrix comes in; no table. -/
namespace Go.Proofs.Ytjapilpjahhimaa
open Go.ChangeShapes Go.WideShapes Go.ChangeAt Go.RowKit Go.Shelf Go.Joins Go.Deep

section
variable {H : Type} {enc : TypeId × Value → H}
set_option maxRecDepth 100000 in
/-- a list in a cell -/
theorem mopen_cell {W : World} {a0 : Option Addr} {len cap fuel : Nat} {y : DataW H × List MemPlace} (h0 : 0 < W.heap.size) (hf : DataW.trod enc Try.prog W 0 (fun _ => true) true fuel 22 [.slice a0 len cap] = some y) :
    ∃ xs, Arg W (.slice a0 len cap) xs ∧ Low 18446744073709551616 xs ∧ (xs = [] ∨ ∃ elems spare, y.1 = .slice elems spare ∧ elems.length = xs.length) := by
  rcases open_ints Try.underlying22 Try.underlying49 cells_u64 hf with ⟨hcs, hx⟩ | ⟨a, len', cap', zs, hcs, _, hl, hm, hz, hx, hcell, hwz⟩
  · simp at hcs
    obtain ⟨rfl, rfl, rfl⟩ := hcs
    exact ⟨[], ⟨0, h0, .inl ⟨⟨_, _, rfl⟩, rfl⟩⟩, (by intro x hx; cases hx), .inl rfl⟩
  · simp at hcs
    obtain ⟨rfl, rfl, rfl⟩ := hcs
    subst hx
    simp only [if_true] at hz
    have hlen : ((zs.take len).map Int.toNat).length = len := by simp; omega
    have hlow : Low 18446744073709551616 ((zs.take len).map Int.toNat) := by
      intro x hx
      obtain ⟨z, hz', rfl⟩ := List.mem_map.1 hx
      have := u64_wf (hwz z (List.mem_of_mem_take hz'))
      omega
    have hd : (lits (H := H) .u64 (zs.take len)).length = ((zs.take len).map Int.toNat).length := by simp [lits]
    refine ⟨(zs.take len).map Int.toNat, ?_, hlow, .inr ⟨_, _, rfl, hd⟩⟩
    by_cases hz0 : 0 < zs.length
    · obtain ⟨b, off, rfl, hc⟩ := ints_at hcell hz0
      have hb : b < W.heap.size := by
        have h1 := hc 0 hz0
        obtain ⟨o, ho, _⟩ := cells_of_cell h1
        exact (Array.getElem?_eq_some_iff.1 ho).1
      refine ⟨b, hb, .inr ⟨off, cap, by rw [hlen], by rw [hlen]; exact hl, fun j hj => ?_⟩⟩
      rw [hlen] at hj
      have hj' : j < zs.length := by omega
      rw [hc j hj']
      have hzj := u64_wf (hwz _ (List.getElem_mem hj'))
      have e1 : zs.getD j 0 = zs[j] := by simp [List.getD, hj']
      have e2 : (lim ((zs.take len).map Int.toNat) j : Int) = zs[j] := by
        unfold lim
        simp [hj, hj']
        omega
      rw [e1, e2]
    · have hz1 : zs = [] := List.eq_nil_of_length_eq_zero (by omega)
      subst hz1
      have : len = 0 := by simp at hz; omega
      subst this
      exact ⟨0, h0, .inl ⟨⟨_, _, rfl⟩, by simp⟩⟩
end
set_option maxRecDepth 100000 in
theorem one_mat : ∃ f0 f1 f2, Try.prog.underlying 24 = some (.struct #[f0, f1, f2]) ∧ oneCellFields Try.prog #[f0, f1, f2] = true ∧ f0.type = 3 ∧ f1.type = 3 ∧ f2.type = 22 := ⟨_, _, _, Try.underlying24, by kernel_rfl, rfl, rfl, rfl⟩
set_option maxRecDepth 100000 in
theorem cells_mat : Try.prog.cellsOf 24 = 3 := by kernel_rfl
set_option maxRecDepth 100000 in
theorem readable_mat : Try.prog.readableRec 24 = true := by kernel_rfl
set_option maxRecDepth 100000 in
theorem typed_mat : 24 < Try.prog.types.size := of_decide_eq_true (by kernel_rfl)
section
variable {H : Type} {enc : TypeId × Value → H}
set_option maxRecDepth 100000 in
/-- a matrix that comes in -/
theorem open_mat {W : World} {base : Nat} {v : Value} {d : DataW H} {ps : List MemPlace} (h0 : 0 < W.heap.size) (hok : Value.okWide Try.prog W .any base 24 v) (h : DataW.Trod enc Try.prog W 0 (fun _ => true) true 24 v d ps) :
    ∃ R C a m cap xs, v = .agg #[.int .i64 R, .int .i64 C, .slice a m cap] ∧ Arg W (.slice a m cap) xs ∧ Low 18446744073709551616 xs ∧ (-9223372036854775808 ≤ R ∧ R < 9223372036854775808) ∧ (-9223372036854775808 ≤ C ∧ C < 9223372036854775808) ∧ (xs = [] ∨ ∃ elems spare, d = .agg [.lit (.int .i64 R), .lit (.int .i64 C), .slice elems spare] ∧ elems.length = xs.length) := by
  obtain ⟨f0, f1, f2, hu, ho, t0, t1, t2⟩ := one_mat
  obtain ⟨v0, v1, v2, y0, y1, y2, n, rfl, rfl, rfl, k0, k1, k2⟩ := open_agg3 hu ho cells_mat hok h
  rw [t0] at k0
  rw [t1] at k1
  rw [t2] at k2
  obtain ⟨R, e0, g3, g4⟩ := DataW.trod_int Try.underlying3 k0
  obtain ⟨C, e1, l3, l4⟩ := DataW.trod_int Try.underlying3 k1
  obtain ⟨a, m, cap, e2⟩ := slice_form Try.underlying22 k2
  simp only [List.cons.injEq, and_true] at e0 e1 e2
  subst e0 e1 e2
  obtain ⟨xs, h1, h2, h3⟩ := mopen_cell h0 k2
  refine ⟨R, C, a, m, cap, xs, rfl, h1, h2, i64_wf g4, i64_wf l4, h3.imp id fun ⟨el, sp, e, hl⟩ => ⟨el, sp, ?_, hl⟩⟩
  rw [e, g3, l3]
set_option maxRecDepth 100000 in
/-- how long a matrix's words may be -/
theorem sized_mat {ts : List TypeId} {ds : List (DataW H)} (h : (DataW.weightsEach Try.prog ts ds).all (· ≤ reachBytes) = true) {j : Nat} {l0 l1 : Lit} {elems spare : List (DataW H)} (ht : ts[j]? = some 24) (hd : ds[j]? = some (.agg [.lit l0, .lit l1, .slice elems spare])) :
    elems.length ≤ 17592186043904 := by
  obtain ⟨f0, f1, f2, hu, _, _, _, t2⟩ := one_mat
  have hm : (elems.length + spare.length) * Try.prog.bytesOf 49 ∈ (DataW.agg [.lit l0, .lit l1, .slice elems spare] : DataW H).weights Try.prog 24 := by
    simp [DataW.weights, hu, DataW.weightsEach, t2, Try.underlying22]
  have h2 := List.all_eq_true.1 h _ (DataW.weights_mem_each ht hd _ hm)
  have h3 : (elems.length + spare.length) * Try.prog.bytesOf 49 ≤ reachBytes := by simpa using h2
  rw [bytes_u64] at h3
  have h4 : reachBytes = 140737488351232 := rfl
  omega
end
end Go.Proofs.Ytjapilpjahhimaa
