/- Proved: for any three whole numbers of bulk at most 1048576 together vernierlaw03.WholeBack answers true and leaves them as they were: what is taken away, put back, is there; a number times the sum of two is the sum of both products. Condition: the bulk. -/
import Derived.Test.YtppbifijgkcpjaaWholeLift
import Derived.Test.YtppbifijgkcpjaaWholeBack
import Derived.LaidLaws
namespace Go.Proofs.Ytppbifijgkcpjaa.wholeBack
open Go.ChangeShapes Go.WideShapes Go.ChangeAt Go.RowKit Go.Shelf

theorem walk3 (s0 : Bool) (b0 : Option Addr) (m0 c0 : Nat) (x0 : List Nat) (s1 : Bool) (b1 : Option Addr) (m1 c1 : Nat) (x1 : List Nat) (s2 : Bool) (b2 : Option Addr) (m2 c2 : Nat) (x2 : List Nat) (W : World)
    (a0 : Arg W (.slice b0 m0 c0) x0) (n0 : x0.length ≤ 1048576) (l0 : Low 18446744073709551616 x0) (a1 : Arg W (.slice b1 m1 c1) x1) (n1 : x1.length ≤ 1048576) (l1 : Low 18446744073709551616 x1) (a2 : Arg W (.slice b2 m2 c2) x2) (n2 : x2.length ≤ 1048576) (l2 : Low 18446744073709551616 x2) :
    Calls Try.prog 12 #[.agg #[.bool s0, .slice b0 m0 c0], .agg #[.bool s1, .slice b1 m1 c1], .agg #[.bool s2, .slice b2 m2 c2]] W fun e W' => e = .returned (.bool true) ∧ Below W.heap.size W W' :=
  back_walk (i := 1048576) (by omega) ⟨_, ⟨x0, a0, l0, rfl, n0⟩, rfl⟩ ⟨_, ⟨x1, a1, l1, rfl, n1⟩, rfl⟩ ⟨_, ⟨x2, a2, l2, rfl, n2⟩, rfl⟩

section
variable (os : Os)
theorem laid_met : laidMet Try.prog Rows.wholeBackUptoRow.laid ((World.holding Try.prog os ⟨#[], #[], []⟩).forCall (fun _ _ => 0) ⟨#[], #[.agg #[.bool false, .slice none 0 0], .agg #[.bool false, .slice none 0 0], .agg #[.bool false, .slice none 0 0]], []⟩).memory :=
  laidMet_of_run' 8 (by kernel_rfl) (by kernel_rfl)
theorem reads {H : Type} (enc : TypeId × Value → H) : ∃ places, DataW.whole enc Try.prog ((World.holding Try.prog os ⟨#[], #[], []⟩).forCall (fun _ _ => 0) ⟨#[], #[.agg #[.bool false, .slice none 0 0], .agg #[.bool false, .slice none 0 0], .agg #[.bool false, .slice none 0 0]], []⟩).memory Try.f12.params.toList Rows.wholeBackSpec.vars false (#[.agg #[.bool false, .slice none 0 0], .agg #[.bool false, .slice none 0 0], .agg #[.bool false, .slice none 0 0]] : Array Value).toList 8 = some ([.agg [.lit (.bool false), .nil], .agg [.lit (.bool false), .nil], .agg [.lit (.bool false), .nil]], [], places) :=
  ⟨[], by kernel_rfl⟩
end

set_option maxRecDepth 100000 in
theorem lifted (os : Os) (started : os.Started) (H : Type) (enc : TypeId × Value → H) (F : Stop.Interp) :
    ReturnsInHanded {} Try.checked os 12 .any ((Rows.OpenSpec.upto Rows.wholeBackSpec).preRow enc Try.prog Try.f12 Rows.wholeBackUptoRow.domain false Rows.wholeBackUptoRow.laid) (((Rows.OpenSpec.upto Rows.wholeBackSpec).at F).post enc Try.prog Try.f12 false true false false) := by
  obtain ⟨places, hx⟩ := reads os enc
  refine returnsInHanded_of_row (C := Try.checked) (s := Rows.OpenSpec.upto Rows.wholeBackSpec) own started (by kernel_rfl) Try.func12
    (witness_row_at (enc := enc) (C := Try.checked) false (World.holding Try.prog os ⟨#[], #[], []⟩) #[.agg #[.bool false, .slice none 0 0], .agg #[.bool false, .slice none 0 0], .agg #[.bool false, .slice none 0 0]] rfl (by kernel_rfl) (by kernel_rfl) (by kernel_rfl)
      (OpenSpec.preRow_of_cond 8 hx (by kernel_rfl) (fun k hk => by cases hk; kernel_rfl) (by kernel_rfl) (laid_met os))) ?_
  intro W base args ds gs before hval hW _ hcond hsz _ hsh _
  have hpos := heap_pos hsh
  have hW' := hW
  have hlt : ∀ x ∈ before, x.block < W.heap.size := fun x hx => hW.lt x hx
  obtain ⟨p, q, hA0, hV, rfl, hfz, hnd⟩ := hW
  have hA : DataW.TrodAll enc Try.prog W 0 (fun _ => true) true Try.f12.params.toList args.toList ds p := hA0
  have hA1 := hA
  rw [Try.params12] at hA hval
  obtain ⟨v0, vs0, d0, ds0, p0, q0, hargs, rfl, rfl, h0, r0⟩ := trodAll_cons hA
  obtain ⟨v1, vs1, d1, ds1, p1, q1, rfl, rfl, rfl, h1, r1⟩ := trodAll_cons r0
  obtain ⟨v2, vs2, d2, ds2, p2, q2, rfl, rfl, rfl, h2, r2⟩ := trodAll_cons r1
  obtain ⟨rfl, rfl, rfl⟩ := trodAll_nil r2
  obtain rfl : args = #[v0, v1, v2] := by cases args; simp_all
  obtain ⟨rfl, rfl⟩ := trodVars_none hV
  obtain ⟨s0, b0, m0, c0, x0, rfl, a0, l0, e0⟩ := open_whole hpos (hval 0 53 v0 rfl rfl) h0
  obtain ⟨s1, b1, m1, c1, x1, rfl, a1, l1, e1⟩ := open_whole hpos (hval 1 53 v1 rfl rfl) h1
  obtain ⟨s2, b2, m2, c2, x2, rfl, a2, l2, e2⟩ := open_whole hpos (hval 2 53 v2 rfl rfl) h2
  have hk : Rows.uptoBulkAll ([d0, d1, d2] ++ []) ≤ 1048576 := of_decide_eq_true (hcond _ rfl)
  simp only [List.append_nil, Rows.uptoBulkAll] at hk
  have n0 : x0.length ≤ 1048576 := by
    rcases e0 with h | ⟨elems, spare, rfl, h⟩
    · rw [h]; simp
    · simp only [Rows.uptoBulk, Rows.uptoBulkAll] at hk; have := bulk_le elems spare; simp only [Rows.uptoBulk] at this; omega
  have n1 : x1.length ≤ 1048576 := by
    rcases e1 with h | ⟨elems, spare, rfl, h⟩
    · rw [h]; simp
    · simp only [Rows.uptoBulk, Rows.uptoBulkAll] at hk; have := bulk_le elems spare; simp only [Rows.uptoBulk] at this; omega
  have n2 : x2.length ≤ 1048576 := by
    rcases e2 with h | ⟨elems, spare, rfl, h⟩
    · rw [h]; simp
    · simp only [Rows.uptoBulk, Rows.uptoBulkAll] at hk; have := bulk_le elems spare; simp only [Rows.uptoBulk] at this; omega
  refine (walk3 s0 b0 m0 c0 x0 s1 b1 m1 c1 x1 s2 b2 m2 c2 x2 W a0 n0 l0 a1 n1 l1 a2 n2 l2).mono ?_
  rintro e W' ⟨rfl, hb⟩
  simp only [List.append_nil] at hW' hlt
  exact ⟨_, rfl, _, [], _, [], _, [], hW', trodAll_cons_mk (shut_bool Try.underlying4 _) trodAll_mk0, all_keep hb (by rw [Try.params12]; intro t ht; simp only [List.mem_cons, List.not_mem_nil, or_false] at ht; rcases ht with rfl | rfl | rfl <;> first | exact ⟨readable_u64s, typed_u64s⟩ | exact ⟨readable_whole, typed_whole⟩ | exact ⟨readable_int, typed_int⟩) hA1 (by simpa using hlt), rfl,
    World.keptBut_mono (fun x hx => ⟨hx, .inr (.inl (by simpa using hx))⟩) (hb.frame _), fun h => by cases h⟩

/-- the statement -/
theorem proved : Rows.WholeBackUptoSaid :=
  OpenClaim.holds_of_cond 12 Try.f12 rfl rfl rfl rfl rfl rfl rfl ⟨rfl, rfl, rfl, rfl, rfl⟩ rfl rfl rfl rfl rfl (by kernel_rfl) Try.func12 (by kernel_rfl)
    (of_decide_eq_true (by kernel_rfl)) (by unfold Func.isWrapper; first | (rw [if_pos (by decide +kernel)]; kernel_rfl) | (rw [if_neg (by decide +kernel)]; exact ⟨rfl, rfl⟩))
    (fun os started H enc _ F => by rw [OpenClaim.pre_eq_preRow]; exact lifted os started H enc F)
#print axioms proved
end Go.Proofs.Ytppbifijgkcpjaa.wholeBack
