/- math/bits.TrailingZeros64; natdiv.Zeros: how many bits at the lower end are 0. -/
import Derived.Test.YtgobclmihppopabDoorState
import Derived.Test.YtgobclmihppopabDoorRaiseNum
import Derived.Test.YtgobclmihppopabDoorNums
import Derived.Shelf.Spec.TrailingZeros
import Derived.IntWalk
namespace Go.Proofs.YtgobclmihppopabDoor
open Go.RowKit Go.Shelf

attribute [local go_sem] Oper.semAt_some

/-- the table that math/bits reads lies in its variable -/
def TabOk (w : World) : Prop := ∀ j, j < Lib.deBruijn64tab.length → w.cell? ⟨0, j, none⟩ = some (.int .u8 (Lib.deBruijn64tab.getD j 0))
theorem TabOk.lt {w : World} (h : TabOk w) : 0 < w.heap.size := by
  obtain ⟨o, ho, _⟩ := cells_of_cell (h 0 (by decide))
  exact (Array.getElem?_eq_some_iff.1 ho).1
theorem TabOk.kept {w w' : World} (h : TabOk w) (hk : w'.heap[(0 : Nat)]? = w.heap[(0 : Nat)]?) : TabOk w' := fun j hj => (World.cell?_of_block (w := w) (a := ⟨0, j, none⟩) hk).trans (h j hj)
theorem TabOk.behind {w w' : World} (h : TabOk w) (hb : Below w.heap.size w w') : TabOk w' := h.kept (hb.block _ h.lt)
theorem TabOk.off {S : Nat} {w w' : World} (h : TabOk w) (ho : Off S w w') (hS : (0 : Nat) ≠ S) : TabOk w' := h.kept (ho.block _ h.lt hS)

set_option maxHeartbeats 1000000 in
theorem tz64_core (x k idx : Nat) (w : World) (hx0 : ((x : Int) == 0) = false)
    (key : IntKind.u64.wrap (bits BinOp.and IntKind.u64 (x : Int) (IntKind.u64.wrap (-(x : Int))) * 285870213051353865) / 288230376151711744 = (idx : Int))
    (hi : idx < 64) (hk : k < 64) (hcell : w.cell? ⟨0, idx, none⟩ = some (.int .u8 k)) :
    Calls Tryd.prog 42 #[.int .u64 x] w fun e w' => e = .returned (.int .i64 k) ∧ w = w' := by
  go_enter Tryd.func42, Tryd.ntmps42
  go_wp2_with (simp only [key])
  go_ret
  exact ⟨rfl, rfl⟩
/-- of a word that is not 0: the place of its lowest bit -/
theorem tz64_calls (x : Nat) (hx : x < 18446744073709551616) (h0 : x ≠ 0) (w : World) (hT : TabOk w) :
    Calls Tryd.prog 42 #[.int .u64 (x : Int)] w fun e w' => e = .returned (.int .i64 (Lib.ctz 64 x)) ∧ w = w' := by
  obtain ⟨hlow, hk⟩ := Lib.lowest_bit 64 x h0 hx
  obtain ⟨hi, htab⟩ := Lib.deBruijn64_at _ hk
  have hcell := hT _ hi
  rw [htab] at hcell
  exact tz64_core x _ _ w (by simp; omega) (tz64_key x _ hx h0 hlow) hi hk hcell
theorem ctz_spec {x : Nat} (hx : x < 18446744073709551616) (h0 : x ≠ 0) : Lib.ctz 64 x < 64 ∧ ∃ m, x = 2 ^ Lib.ctz 64 x * (2 * m + 1) := by
  have h := Lib.ctzFrom_spec 64 x (Nat.pos_of_ne_zero h0) hx
  unfold Lib.ctz
  rw [if_neg h0]
  obtain ⟨m, h1, h2⟩ := h
  exact ⟨h2, m, h1⟩
/-- z zeros at the lower end of N; of 0 none -/
def ZOf (N z : Nat) : Prop := (N = 0 ∧ z = 0) ∨ ∃ m, N = 2 ^ z * (2 * m + 1)
theorem zof_at {xs : List Nat} {i : Nat} (hlow : Low 18446744073709551616 xs) (hi : i < xs.length) (hz : ∀ j, j < i → lim xs j = 0) (h0 : lim xs i ≠ 0) : ZOf (val 18446744073709551616 xs) (64 * i + Lib.ctz 64 (lim xs i)) := by
  obtain ⟨hc, m, hm⟩ := ctz_spec (lim_lt hlow (by decide) i) h0
  have h1 := val_split (B := 18446744073709551616) (s := xs) (j := i) (by omega)
  have hp : part 18446744073709551616 xs i = 0 := by
    rw [part_congr (ys := []) (fun j hj => by rw [hz j hj]; rfl), part_ge _ [] i (Nat.zero_le _)]; rfl
  have e : xs.drop i = lim xs i :: xs.drop (i + 1) := by
    rw [List.drop_eq_getElem_cons hi]
    unfold lim; rw [List.getElem?_eq_getElem hi]; rfl
  rw [hp, Nat.zero_add, e, val] at h1
  refine .inr ⟨m + 2 ^ (63 - Lib.ctz 64 (lim xs i)) * val 18446744073709551616 (xs.drop (i + 1)), ?_⟩
  rw [h1, show 18446744073709551616 ^ i = 2 ^ (64 * i) by rw [show 18446744073709551616 = 2 ^ 64 from rfl, ← Nat.pow_mul], Nat.pow_add, Nat.mul_assoc]
  congr 1
  generalize val 18446744073709551616 (xs.drop (i + 1)) = V
  generalize lim xs i = x at *
  generalize Lib.ctz 64 x = c at *
  have e64 : 18446744073709551616 = 2 ^ c * (2 * 2 ^ (63 - c)) := by
    rw [← Nat.pow_succ', ← Nat.pow_add, show c + (63 - c).succ = 64 by omega]
  rw [hm, e64, Nat.mul_assoc, ← Nat.mul_add]
  congr 1
  rw [Nat.mul_add 2 m, Nat.mul_assoc 2]
  omega
theorem zof_zero {xs : List Nat} (hz : ∀ j, j < xs.length → lim xs j = 0) : ZOf (val 18446744073709551616 xs) 0 := by
  refine .inl ⟨?_, rfl⟩
  rw [← val_cutz, cutz_none hz]; rfl

set_option maxRecDepth 100000 in
set_option maxHeartbeats 4000000 in
theorem zeros_in (n : Nat) (hn : 6 ≤ n) (b : Nat) (v : Value) (xs : List Nat) (hreach : xs.length ≤ 17592186044416) (hlow : Low 18446744073709551616 xs) (w : World) (hT : TabOk w) (hb : b < w.heap.size) (hI : RdAt b w v xs) :
    CallsIn Fence.wide n Tryd.prog 28 #[v] w fun e W' => ∃ z : Nat, e = .returned (.int .i64 (z : Int)) ∧ (ZOf (val 18446744073709551616 xs) z ∧ z ≤ 64 * xs.length) ∧ Below w.heap.size w W' := by
  have h1 : 1 ≤ n := by omega
  have hmx := follows
  obtain ⟨a, cap, rfl, hcap, hsome⟩ := hI.slice
  obtain ⟨off, ha⟩ : ∃ off, 0 < xs.length → a = some ⟨b, off, none⟩ := by
    by_cases h : 0 < xs.length
    · obtain ⟨off, h2⟩ := hsome h; exact ⟨off, fun _ => h2⟩
    · exact ⟨0, fun h2 => absurd h2 h⟩
  refine callsIn_of_wp_marks Tryd.func28 rfl trivial ?_ rfl
  simp only [Tryd.ntmps28, List.size_toArray, List.length_cons, List.length_nil, Nat.reduceAdd, Nat.reduceSub, Array.replicate_succ, Array.replicate_zero, List.push_toArray, List.append_toArray, List.nil_append, List.cons_append]
  gi_wp2_with (refine ⟨trivial, ?_⟩; gi_at_call 41; refine (nup_in Fence.wide (n - 1) trivial rfl _ _ _ _).mono ?_; rintro e w' ⟨rfl, rfl⟩)
  have bR := (Boxed.new w 3 (.int .i64 0)).alloc (.cells #[.slice a xs.length cap] 24)
  have bN := Boxed.new (w.alloc (.cells #[.int .i64 0] 3)) 24 (.slice a xs.length cap)
  have hB0 : Below w.heap.size w ((w.alloc (.cells #[.int .i64 0] 3)).alloc (.cells #[.slice a xs.length cap] 24)) := ((Below.refl _ w).alloc (Nat.le_refl _) _).alloc (by simp) _
  simp only [World.size_alloc] at bN
  have hW0 : ((w.alloc (.cells #[.int .i64 0] 3)).alloc (.cells #[.slice a xs.length cap] 24)).heap.size = w.heap.size + 1 + 1 := by simp
  generalize (w.alloc (.cells #[.int .i64 0] 3)).alloc (.cells #[.slice a xs.length cap] 24) = W0 at *
  have hww : w.heap.size ≤ W0.heap.size := by omega
  let I : Nat → World → Prop := fun k W => ((Boxed W w.heap.size 3 (.int .i64 0) ∧ Boxed W (w.heap.size + 1) 24 (.slice a xs.length cap)) ∧ Below w.heap.size w W) ∧ (∀ j, j < k → lim xs j = 0)
  have hIs : ∀ k, Steady W0.heap.size (I k) := fun k => ((steady_boxed.and steady_boxed).and (steady_below hww (Nat.le_refl _))).and (steady_pure (p := ∀ j, j < k → lim xs j = 0))
  refine wpIn_range (σ := Pl xs.length) rfl h1 (gf := 52) (lb := #[.pointer (some ⟨w.heap.size + 1, 0, none⟩)]) rfl trivial (enters_of Tryd.func52 (by kernel_rfl) rfl)
    (encs := encU xs) (fun _ => rfl) (I 0) (fun s => I (s.1 + 1)) (fun s => I s.1) (I xs.length)
    (fun c W => (c = .ret ∧ ∃ z : Nat, ZOf (val 18446744073709551616 xs) z ∧ z ≤ 64 * xs.length ∧ Boxed W w.heap.size 3 (.int .i64 (z : Int))) ∧ Below w.heap.size w W)
    (hIs 0) (fun _ => hIs _) (fun _ => hIs _) (hIs _) (fun c => (steady_pure.and (Steady.ex_ fun z => steady_pure.and (steady_pure.and steady_boxed))).and (steady_below hww (Nat.le_refl _)))
    ⟨⟨⟨bR, bN⟩, hB0⟩, fun j hj => by omega⟩ ?seq ?a1 ?assign ?body ?done ?stop
  case seq =>
    intro l X Xz W hl hXs hI0 hX hY
    exact nup_st Fence.wide (n - 1) trivial rfl (by omega) l (w.heap.size + 1) b off cap xs.length a ha (by omega) (fun k => (lim xs k : Int)) I X _ Xz
      (fun k W _ h => h.1.1.2.cell)
      (fun k W hk h => by
        obtain rfl := ha (by omega)
        exact (h.1.2.cell (p := ⟨b, off + k, none⟩) hb).trans (hI.cell hk))
      (fun k U hk h hx => hY ⟨k, hk⟩ U h hx) W hI0 hX
  case assign =>
    intro l x W K hK
    gi_wp2
    exact hK
  case body =>
    rintro l ⟨k, hk⟩ W hl ⟨⟨⟨c1, c2⟩, hB⟩, hz⟩
    dsimp only at *
    have hx := lim_lt hlow (by decide) k
    have hd0 : 1 ≤ n - 1 - 1 := by omega
    have k1 := c1.cell
    have g1 := c1.frozen
    have HZ := Lib.hid hz
    clear hz
    by_cases h0 : lim xs k = 0
    · have hd : ((lim xs k : Int) != 0) = false := by simp [h0]
      have H0 := Lib.hid h0
      clear h0
      gi_wp2
      exact ⟨KeepsFrom.refl _ _, ⟨⟨c1, c2⟩, hB⟩, fun j hj => by
        by_cases e : j = k
        · subst e; exact H0.out
        · exact HZ.out j (by omega)⟩
    · have hd : ((lim xs k : Int) != 0) = true := by simp [h0]
      have hzf := Lib.hid (zof_at hlow hk HZ.out h0)
      have hct := (ctz_spec hx h0).1
      have hle : 64 * k + Lib.ctz 64 (lim xs k) ≤ 64 * xs.length := by omega
      have hTW : TabOk W := hT.kept (hB.block _ hT.lt)
      have htz := Lib.hid (tz64_calls _ hx h0 W hTW)
      have HLE := Lib.hid hle
      clear h0 hle
      generalize Lib.ctz 64 (lim xs k) = c at *
      gi_wp2_with (refine ⟨trivial, ?_⟩; gi_at_call 42; refine (CallsIn.inRound l (callsIn_wide.2 htz.out)).mono ?_; rintro e w' ⟨rfl, rfl⟩)
      exact ⟨(KeepsOthers.setCell _ _ _).from _, ⟨rfl, 64 * k + c, hzf.out, HLE.out, by simpa using c1.set (.int .i64 ((64 * k + c : Nat) : Int))⟩, hB.setCell (p := ⟨w.heap.size, 0, none⟩) (Nat.le_refl _) _⟩
  case done =>
    rintro D W hD ⟨⟨⟨c1, c2⟩, hB⟩, hz⟩ hK
    have k1 := c1.cell
    have g1 := c1.frozen
    have HZ := Lib.hid (zof_zero hz)
    clear hz
    gi_wp2
    have hK' := (KeepsOthers.setCell W ⟨w.heap.size, 0, none⟩ (.int .i64 0)).same D _ hK rfl
    have bR2 := (c1.set (.int .i64 0)).kept (grownBy_putObj' _ D (.deferred none)) (by simp; omega)
    have hc5 := bR2.cell
    refine ⟨by simp, .inl ⟨_, _, rfl, run_takeDeferred hK', ?_⟩⟩
    refine ⟨.int .i64 0, ?_, 0, rfl, ⟨HZ.out, Nat.zero_le _⟩, (hB.setCell (p := ⟨w.heap.size, 0, none⟩) (Nat.le_refl _) _).trans (belowK_b (w := w) (Nat.le_refl _) _ D _ _ (by omega) hK' rfl rfl)⟩
    simp [results, Tryd.f28, go_sem, hc5]
  case stop =>
    rintro D c W hD ⟨⟨rfl, z, hz1, hz2, bR'⟩, hB⟩ hK
    have HZ := Lib.hid hz1
    clear hz1
    gi_wp2
    have bR2 := bR'.kept (grownBy_putObj' _ D (.deferred none)) (by simp; omega)
    have hc5 := bR2.cell
    have hBf := hB.trans (belowK_b (w := w) (Nat.le_refl _) _ D _ (.deferred none) (by omega) hK rfl rfl)
    refine ⟨by simp, .inl ⟨_, _, rfl, run_takeDeferred hK, ?_⟩⟩
    refine ⟨.int .i64 (z : Int), ?_, z, rfl, ⟨HZ.out, hz2⟩, hBf⟩
    simp [results, Tryd.f28, go_sem, hc5]
theorem zeros_num {va : Value} {N i : Nat} {w : World} (hA : Num w va N i) (hi : i ≤ 17592186044416) (hT : TabOk w) :
    Calls Tryd.prog 28 #[va] w fun e W' => ∃ z : Nat, e = .returned (.int .i64 (z : Int)) ∧ (ZOf N z ∧ z ≤ 64 * i) ∧ Below w.heap.size w W' := by
  obtain ⟨xs, ⟨b, h1, h2⟩, h3, rfl, h4⟩ := hA
  refine (callsIn_wide.1 (zeros_in 6 (Nat.le_refl _) b va xs (by omega) h3 w hT h1 h2)).mono ?_
  rintro e W' ⟨z, he, ⟨hz1, hz2⟩, hb⟩
  exact ⟨z, he, ⟨hz1, by omega⟩, hb⟩
end Go.Proofs.YtgobclmihppopabDoor
