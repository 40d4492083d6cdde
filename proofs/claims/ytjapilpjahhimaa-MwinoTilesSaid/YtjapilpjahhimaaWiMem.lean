/- winograd: parts of words in memory. -/
import Derived.Test.YtjapilpjahhimaaNeMax
import Derived.Test.YtjapilpjahhimaaNeNum
import Derived.Test.YtjapilpjahhimaaVeSpec
import Derived.Test.YtjapilpjahhimaaVwNum
import Derived.Test.YtjapilpjahhimaaState
import Derived.Test.YtjapilpjahhimaaMaCol
import Derived.BigQuiet
import Derived.Deep.RegionHeld3
import Derived.Deep.DeepCutAuto
import Derived.OrdersHeld
import Derived.Test.YtjapilpjahhimaaMaNum
import Derived.Test.YtjapilpjahhimaaWiNum
namespace Go.Proofs.Ytjapilpjahhimaa
open Go.RowKit Go.Shelf
/-- a view of words that stand in block S from B on -/
structure Prt where
  S : Nat
  B : Nat
  N : Nat
  cap : Nat
  O : Nat
  R : Nat
  C : Nat
  T : Nat
def Prt.val (p : Prt) : Value := .agg #[.int .i64 (p.R : Int), .int .i64 (p.C : Int), .int .i64 (p.T : Int), .int .i64 (p.O : Int), .slice (some ⟨p.S, p.B, none⟩) p.N p.cap]
def Prt.at (p : Prt) (i j : Nat) : Nat := p.B + (p.O + i * p.T + j)
def Prt.get (p : Prt) (m : Nat → Nat → Nat) (i j : Nat) : Nat := m p.S (p.at i j)
def Prt.has (p : Prt) (S o : Nat) : Prop := S = p.S ∧ ∃ i j, i < p.R ∧ j < p.C ∧ o = p.at i j
structure Prt.ok (p : Prt) (L : Nat → Nat → Prop) : Prop where
  r : p.R ≤ 64
  c : p.C ≤ 64
  ct : p.C ≤ p.T
  t : p.T ≤ 64
  o : p.O ≤ 2000000
  nc : p.N ≤ p.cap
  n : p.N ≤ 1048576
  fit : 0 < p.R → 0 < p.C → p.O + (p.R - 1) * p.T + p.C ≤ p.N
  lv : ∀ i j, i < p.R → j < p.C → L p.S (p.at i j)
/-- the part of p from row i and column j on -/
def Prt.blk (p : Prt) (i j r c : Nat) : Prt := ⟨p.S, p.B, p.N, p.cap, p.O + i * p.T + j, r, c, p.T⟩
def Dis (p q : Prt) : Prop := ∀ i j i' j', i < p.R → j < p.C → i' < q.R → j' < q.C → p.S ≠ q.S ∨ p.at i j ≠ q.at i' j'
theorem Dis.symm {p q : Prt} (h : Dis p q) : Dis q p := fun i j i' j' h1 h2 h3 h4 => (h i' j' i j h3 h4 h1 h2).imp (fun k e => k e.symm) (fun k e => k e.symm)
theorem row_step {i r T : Nat} (h : i < r) : i * T + T ≤ r * T := by
  have := Nat.mul_le_mul_right T (show i + 1 ≤ r from h)
  rw [Nat.add_mul, Nat.one_mul] at this
  exact this
theorem row_top {i r T : Nat} (h : i < r) : i * T ≤ (r - 1) * T := Nat.mul_le_mul_right T (by omega)
theorem place_inj {i j i' j' T : Nat} (hj : j < T) (hj' : j' < T) (h : i * T + j = i' * T + j') : i = i' ∧ j = j' := by
  have h1 : (i * T + j) / T = i := by rw [Nat.mul_comm, Nat.mul_add_div (by omega), Nat.div_eq_of_lt hj, Nat.add_zero]
  have h2 : (i' * T + j') / T = i' := by rw [Nat.mul_comm, Nat.mul_add_div (by omega), Nat.div_eq_of_lt hj', Nat.add_zero]
  have e : i = i' := by rw [← h1, ← h2, h]
  subst e
  exact ⟨rfl, by omega⟩
section
variable {p q : Prt} {L : Nat → Nat → Prop} {m m' : Nat → Nat → Nat}
theorem Prt.ok.bound (h : p.ok L) {i : Nat} (hi : i < p.R) (h0 : 0 < p.C) : p.O + i * p.T + p.C ≤ p.N := by
  have h1 := h.fit (by omega) h0
  have h2 := row_top (T := p.T) hi
  omega
theorem Prt.at_inj (h : p.ok L) {i j i' j' : Nat} (hj : j < p.C) (hj' : j' < p.C) (e : p.at i j = p.at i' j') : i = i' ∧ j = j' := by
  have := h.ct
  unfold Prt.at at e
  exact place_inj (T := p.T) (by omega) (by omega) (by omega)
theorem Prt.blk_at (p : Prt) (i j r c a b : Nat) : (p.blk i j r c).at a b = p.at (i + a) (j + b) := by
  unfold Prt.at Prt.blk
  dsimp only
  rw [Nat.add_mul]
  omega
theorem Prt.blk_get (p : Prt) (m : Nat → Nat → Nat) (i j r c a b : Nat) : (p.blk i j r c).get m a b = p.get m (i + a) (j + b) := by
  unfold Prt.get
  rw [Prt.blk_at]
  rfl
theorem Prt.ok.may (h : p.ok L) (hR : 0 < p.R) (hC : 0 < p.C) : mayW (p.R : Int) (p.C : Int) (p.T : Int) (p.O : Int) 1048576 = true := by
  have h1 := h.fit hR hC
  obtain ⟨h2, h3, h4, h5, h6, h7, h8, -, -⟩ := h
  refine mayW_iff.2 ⟨by omega, by omega, by omega, by omega, by omega, by omega, by omega, by omega, .inr (.inr ?_)⟩
  have e : ((p.R : Int) - 1) * (p.T : Int) = (((p.R - 1) * p.T : Nat) : Int) := by rw [Int.natCast_mul]; congr 1; omega
  unfold lastW
  rw [e]
  omega
theorem Prt.ok.blk (h : p.ok L) {i j r c : Nat} (hi : i + r ≤ p.R) (hj : j + c ≤ p.C) (hR : 0 < p.R) (hC : 0 < p.C) : (p.blk i j r c).ok L := by
  have h1 := h.fit hR hC
  have hf : 0 < r → p.O + i * p.T + j + (r - 1) * p.T + c ≤ p.N := fun hr => by
    have h2 : (i + (r - 1)) * p.T ≤ (p.R - 1) * p.T := Nat.mul_le_mul_right _ (by omega)
    rw [Nat.add_mul] at h2
    omega
  have ho : p.O + i * p.T + j ≤ 2000000 := by
    have h2 : i * p.T ≤ 64 * 64 := Nat.mul_le_mul (by have := h.r; omega) h.t
    have := h.c
    have := h.n
    have : 0 ≤ (p.R - 1) * p.T := Nat.zero_le _
    omega
  exact ⟨by have := h.r; show r ≤ 64; omega, by have := h.c; show c ≤ 64; omega, by have := h.ct; show c ≤ p.T; omega, h.t, ho, h.nc, h.n, fun hr _ => hf hr, fun a b ha hb => by
    have : (p.blk i j r c).S = p.S := rfl
    rw [Prt.blk_at, this]
    exact h.lv _ _ (by have ha' : a < r := ha; omega) (by have hb' : b < c := hb; omega)⟩
theorem Dis.blk (h : Dis p q) {i j r c : Nat} (hi : i + r ≤ p.R) (hj : j + c ≤ p.C) : Dis (p.blk i j r c) q := fun a b i' j' ha hb h3 h4 => by
  have ha' : a < r := ha
  have hb' : b < c := hb
  rw [Prt.blk_at]
  exact h _ _ _ _ (by omega) (by omega) h3 h4
theorem Dis.blk2 (h : Dis p q) {i j r c : Nat} (hi : i + r ≤ q.R) (hj : j + c ≤ q.C) : Dis p (q.blk i j r c) := (h.symm.blk hi hj).symm
/-- two parts of one that have no place in common -/
theorem blk_dis (h : p.ok L) {i j r c i' j' r' c' : Nat} (hj : j + c ≤ p.C) (hj' : j' + c' ≤ p.C) (ha : i + r ≤ i' ∨ i' + r' ≤ i ∨ j + c ≤ j' ∨ j' + c' ≤ j) : Dis (p.blk i j r c) (p.blk i' j' r' c') := fun a b a' b' h1 h2 h3 h4 => by
  have h1' : a < r := h1
  have h2' : b < c := h2
  have h3' : a' < r' := h3
  have h4' : b' < c' := h4
  rw [Prt.blk_at, Prt.blk_at]
  refine .inr fun e => ?_
  have := Prt.at_inj h (by omega) (by omega) e
  omega
/-- what is not c's is as it was -/
def Only (c : Prt) (m m' : Nat → Nat → Nat) : Prop := ∀ S o, ¬ c.has S o → m' S o = m S o
theorem Only.refl (c : Prt) (m : Nat → Nat → Nat) : Only c m m := fun _ _ _ => rfl
theorem Only.trans {c : Prt} {m m' m'' : Nat → Nat → Nat} (h : Only c m m') (k : Only c m' m'') : Only c m m'' := fun S o n => (k S o n).trans (h S o n)
theorem Only.get {c : Prt} (h : Only c m m') (d : Dis p c) {i j : Nat} (hi : i < p.R) (hj : j < p.C) : p.get m' i j = p.get m i j := by
  unfold Prt.get
  refine h _ _ ?_
  rintro ⟨e, a, b, ha, hb, eo⟩
  rcases d i j a b hi hj ha hb with k | k
  · exact k e
  · exact k eo
def upM (m : Nat → Nat → Nat) (S o v : Nat) : Nat → Nat → Nat := fun S' o' => if S' = S ∧ o' = o then v else m S' o'
theorem upM_at (m : Nat → Nat → Nat) (S o v : Nat) : upM m S o v S o = v := if_pos ⟨rfl, rfl⟩
theorem upM_else {m : Nat → Nat → Nat} {S o v S' o' : Nat} (h : ¬ (S' = S ∧ o' = o)) : upM m S o v S' o' = m S' o' := if_neg h
theorem upM_only {c : Prt} {m : Nat → Nat → Nat} {i j v : Nat} (hi : i < c.R) (hj : j < c.C) : Only c m (upM m c.S (c.at i j) v) := fun _ _ n => upM_else fun ⟨e1, e2⟩ => n ⟨e1, i, j, hi, hj, e2⟩
end
/-- live words, blocks that may be written -/
structure Me (L : Nat → Nat → Prop) (X : Nat → Prop) (m : Nat → Nat → Nat) (W : World) : Prop where
  rd : ∀ S o, L S o → W.cell? ⟨S, o, none⟩ = some (.int .u64 (m S o : Int))
  lw : ∀ S o, m S o < 18446744073709551616
  wb : ∀ S, X S → Wb W S
  lt : ∀ S o, L S o → S < W.heap.size
section
variable {L : Nat → Nat → Prop} {X : Nat → Prop} {m : Nat → Nat → Nat} {W W' : World}
theorem Me.behind (h : Me L X m W) (hb : Below W.heap.size W W') : Me L X m W' :=
  ⟨fun S o hl => (hb.cell (p := ⟨S, o, none⟩) (h.lt S o hl)).trans (h.rd S o hl), h.lw, fun S hs => (h.wb S hs).behind hb, fun S o hl => Nat.lt_of_lt_of_le (h.lt S o hl) hb.size⟩
theorem Me.frozen (h : Me L X m W) {S : Nat} (hs : X S) (o : Nat) : W.frozen? ⟨S, o, none⟩ = false := by
  obtain ⟨cur, hc⟩ := h.wb S hs
  exact Ms.f (cs := cur) (t := 49) hc o
theorem Wb.set {W : World} {S : Nat} (h : Wb W S) (b o : Nat) (u : Value) : Wb (W.setCell ⟨b, o, none⟩ u) S := by
  obtain ⟨cur, hc⟩ := h
  by_cases e : S = b
  · subst e
    exact ⟨_, Ms.set (cs := cur) (t := 49) hc o u⟩
  · exact ⟨cur, (Below.heap_setCell W ⟨b, o, none⟩ u S e).trans hc⟩
theorem Me.set (h : Me L X m W) {S o v : Nat} (hs : X S) (hl : L S o) (hv : v < 18446744073709551616) : Me L X (upM m S o v) (W.setCell ⟨S, o, none⟩ (.int .u64 (v : Int))) := by
  refine ⟨fun S' o' hl' => ?_, fun S' o' => ?_, fun S' hs' => (h.wb S' hs').set S o _, fun S' o' hl' => by rw [World.size_setCell]; exact h.lt S' o' hl'⟩
  · by_cases e : S' = S ∧ o' = o
    · obtain ⟨rfl, rfl⟩ := e
      rw [upM_at]
      exact World.cell?_setCell_same _ _ _ (h.rd _ _ hl)
    · rw [upM_else e]
      exact (World.cell?_setCell_other _ _ _ _ (by intro k; simp only [Addr.mk.injEq, and_true] at k; first | exact e k | exact e ⟨k.1.symm, k.2.symm⟩)).trans (h.rd S' o' hl')
  · unfold upM
    split
    · exact hv
    · exact h.lw S' o'
end
/-- what winograd's calls keep: live words, and the arena of n words, u of them lent, h at most -/
structure St (L : Nat → Nat → Prop) (X : Nat → Prop) (b g s n u h : Nat) (m : Nat → Nat → Nat) (W : World) : Prop where
  me : Me L X m W
  an : ∃ ws, AN b W g s n u h ws
  gx : ∀ S, X S → S ≠ g
/-- the streams are as they were -/
def Io (W W' : World) : Prop := W'.os = W.os ∧ W'.tape = W.tape ∧ W'.output = W.output
theorem Io.refl (W : World) : Io W W := ⟨rfl, rfl, rfl⟩
theorem Io.trans {W W' W'' : World} (h : Io W W') (k : Io W' W'') : Io W W'' := ⟨k.1.trans h.1, k.2.1.trans h.2.1, k.2.2.trans h.2.2⟩
theorem Io.of {B : Nat} {W W' : World} (h : Below B W W') : Io W W' := ⟨h.os, h.tape, h.output⟩
theorem Io.set (W : World) (p : Addr) (v : Value) : Io W (W.setCell p v) := Io.of ((Below.refl 0 W).setCell (p := p) (Nat.zero_le _) v)
/-- all but the blocks of X and g is as it was -/
structure Kq (X : Nat → Prop) (g : Nat) (W W' : World) : Prop where
  size : W.heap.size ≤ W'.heap.size
  keep : ∀ j, j < W.heap.size → ¬ X j → j ≠ g → W'.heap[j]? = W.heap[j]?
  io : Io W W'
section
variable {L : Nat → Nat → Prop} {X : Nat → Prop} {b g s n u h : Nat} {m : Nat → Nat → Nat} {W W' W'' : World}
theorem St.behind (k : St L X b g s n u h m W) (hb : Below W.heap.size W W') : St L X b g s n u h m W' := by
  obtain ⟨h1, ⟨ws, h2⟩, h3⟩ := k
  exact ⟨h1.behind hb, ⟨ws, h2.behind hb⟩, h3⟩
theorem St.set (k : St L X b g s n u h m W) {S o v : Nat} (hs : X S) (hl : L S o) (hv : v < 18446744073709551616) : St L X b g s n u h (upM m S o v) (W.setCell ⟨S, o, none⟩ (.int .u64 (v : Int))) := by
  obtain ⟨h1, ⟨ws, h2⟩, h3⟩ := k
  refine ⟨h1.set hs hl hv, ?_, h3⟩
  by_cases e : S = s
  · subst e
    exact ⟨_, h2.word v⟩
  · exact ⟨ws, h2.put (fun q => h3 S hs q.symm) (fun q => e q.symm) _⟩
theorem St.cell (k : St L X b g s n u h m W) {S o : Nat} (hl : L S o) : W.cell? ⟨S, o, none⟩ = some (.int .u64 (m S o : Int)) := k.me.rd S o hl
theorem Kq.refl (X : Nat → Prop) (g : Nat) (W : World) : Kq X g W W := ⟨Nat.le_refl _, fun _ _ _ _ => rfl, Io.refl _⟩
theorem Kq.trans (h : Kq X g W W') (k : Kq X g W' W'') : Kq X g W W'' := ⟨Nat.le_trans h.size k.size, fun j hj h1 h2 => (k.keep j (Nat.lt_of_lt_of_le hj h.size) h1 h2).trans (h.keep j hj h1 h2), h.io.trans k.io⟩
theorem Kq.of (h : Below W.heap.size W W') : Kq X g W W' := ⟨h.size, fun j hj _ _ => h.block j hj, Io.of h⟩
theorem Kq.below (h : Kq X g W W') (k : Below W'.heap.size W' W'') : Kq X g W W'' := h.trans (Kq.of k)
theorem Kq.set {S : Nat} (hs : X S) (o : Nat) (v : Value) : Kq X g W (W.setCell ⟨S, o, none⟩ v) := ⟨by rw [World.size_setCell]; exact Nat.le_refl _, fun j _ h1 _ => Below.heap_setCell W ⟨S, o, none⟩ v j (fun e => h1 (by rw [e]; exact hs)), Io.set _ _ _⟩
theorem Kq.ms (k : Kq X g W W') {j : Nat} {cs : Array Value} {t : TypeId} (h : Ms W j cs t) (h1 : ¬ X j) (h2 : j ≠ g) : Ms W' j cs t := (k.keep j h.lt h1 h2).trans h
end
end Go.Proofs.Ytjapilpjahhimaa

/- winograd: rows, columns, blocks of a part. -/
namespace Go.Proofs.Ytjapilpjahhimaa
open Go.RowKit Go.Shelf
def PV5 (R C T O : Int) (v : Value) : Array Value := #[.int .i64 R, .int .i64 C, .int .i64 T, .int .i64 O, v]
abbrev put5 (W : World) (g : Nat) (a b c d e : Value) : World := ((((W.setCell ⟨g, 0, none⟩ a).setCell ⟨g, 1, none⟩ b).setCell ⟨g, 2, none⟩ c).setCell ⟨g, 3, none⟩ d).setCell ⟨g, 4, none⟩ e
theorem below_put5 {B g : Nat} {w W : World} (h : Below B w W) (hg : B ≤ g) (x y z u v : Value) : Below B w (put5 W g x y z u v) :=
  (((((h.setCell (p := ⟨g, 0, none⟩) hg x).setCell (p := ⟨g, 1, none⟩) hg y).setCell (p := ⟨g, 2, none⟩) hg z).setCell (p := ⟨g, 3, none⟩) hg u).setCell (p := ⟨g, 4, none⟩) hg v)
theorem heap_put5 {W : World} {g q : Nat} {x y z u v : Value} (h : q ≠ g) : (put5 W g x y z u v).heap[q]? = W.heap[q]? :=
  (Below.heap_setCell _ ⟨g, 4, none⟩ _ _ h).trans ((Below.heap_setCell _ ⟨g, 3, none⟩ _ _ h).trans ((Below.heap_setCell _ ⟨g, 2, none⟩ _ _ h).trans ((Below.heap_setCell _ ⟨g, 1, none⟩ _ _ h).trans (Below.heap_setCell _ ⟨g, 0, none⟩ _ _ h))))
theorem ms_put5 {W : World} {g : Nat} {a b c d e x y z u v : Value} {t : TypeId} (hM : Ms W g #[a, b, c, d, e] t) : Ms (put5 W g x y z u v) g #[x, y, z, u, v] t := ((((hM.set 0 x).set 1 y).set 2 z).set 3 u).set 4 v
theorem ms_past5 {W : World} {g h : Nat} {cs : Array Value} {t : TypeId} {x y z u v : Value} (hM : Ms W g cs t) (hn : g ≠ h) : Ms (put5 W h x y z u v) g cs t := (heap_put5 hn).trans hM
theorem load5 {W : World} {g : Nat} {v0 v1 v2 v3 v4 : Value} (k0 : W.cell? ⟨g, 0, none⟩ = some v0) (k1 : W.cell? ⟨g, 1, none⟩ = some v1) (k2 : W.cell? ⟨g, 2, none⟩ = some v2) (k3 : W.cell? ⟨g, 3, none⟩ = some v3) (k4 : W.cell? ⟨g, 4, none⟩ = some v4) :
    (loadVar 82 ⟨g, 0, none⟩).run Try.prog W = .ok (.agg #[v0, v1, v2, v3, v4]) W := by
  simp [go_sem, k0, k1, k2, k3, k4]
theorem map_four {F : ResultVar → Sem Value} {x1 x2 x3 x4 : ResultVar} {v1 v2 v3 v4 : Value} {P : Program} {w : World} (l1 : (F x1).run P w = .ok v1 w) (l2 : (F x2).run P w = .ok v2 w) (l3 : (F x3).run P w = .ok v3 w) (l4 : (F x4).run P w = .ok v4 w) :
    (do let vs ← Array.mapM F #[x1, x2, x3, x4]; pure (if h : vs.size = 1 then vs[0] else Value.tuple vs) : Sem Value).run P w = .ok (.tuple #[v1, v2, v3, v4]) w := by
  simp [l1, l2, l3, l4]
theorem cell_run {t : TypeId} {x : Value} {p : Addr} {v : Value} {P : Program} {w : World} (e : x = .pointer (some p)) (l : (loadVar t p).run P w = .ok v w) : (do let ad ← asAddr x; loadVar t ad : Sem Value).run P w = .ok v w := by
  subst e
  exact l
theorem results_cell4 {fn : Func} {t : TypeId} {a b c d : Tmp} (h : fn.results = #[.cell a t, .cell b t, .cell c t, .cell d t]) {tmps : Array Value} {p1 p2 p3 p4 : Addr} {v1 v2 v3 v4 : Value} {P : Program} {w : World}
    (e1 : tmps.getD a undef = .pointer (some p1)) (e2 : tmps.getD b undef = .pointer (some p2)) (e3 : tmps.getD c undef = .pointer (some p3)) (e4 : tmps.getD d undef = .pointer (some p4))
    (l1 : (loadVar t p1).run P w = .ok v1 w) (l2 : (loadVar t p2).run P w = .ok v2 w) (l3 : (loadVar t p3).run P w = .ok v3 w) (l4 : (loadVar t p4).run P w = .ok v4 w) :
    (results fn tmps).run P w = .ok (.tuple #[v1, v2, v3, v4]) w := by
  rw [results.eq_1, h]
  exact map_four (cell_run e1 l1) (cell_run e2 l2) (cell_run e3 l3) (cell_run e4 l4)
theorem wi_row0 {S B N cap O C T i : Nat} {R : Int} {w : World} (hO : O ≤ 2000000) (hT : T ≤ 64) (hi : i ≤ 64) (hC0 : 0 < C) (hC : C ≤ 64) (hf : O + i * T + C ≤ N) (hc : N ≤ cap) :
    Calls Try.prog 82 #[.agg #[.int .i64 R, .int .i64 (C : Int), .int .i64 (T : Int), .int .i64 (O : Int), .slice (some ⟨S, B, none⟩) N cap], .int .i64 (i : Int)] w fun e W' => e = .returned (.slice (some ⟨S, B + (O + i * T), none⟩) C (cap - (O + i * T))) ∧ Below w.heap.size w W' := by
  obtain ⟨Bw, G⟩ := mbox w #[.int .i64 R, .int .i64 (C : Int), .int .i64 (T : Int), .int .i64 (O : Int), .slice (some ⟨S, B, none⟩) N cap] 82 _ rfl
  have c1 := G.cell (i := 1) rfl
  have c2 := G.cell (i := 2) rfl
  have c3 := G.cell (i := 3) rfl
  have c4 := G.cell (i := 4) rfl
  obtain ⟨I, hI⟩ : ∃ I, I = i * T := ⟨_, rfl⟩
  obtain ⟨P, hP⟩ : ∃ P, P = O + i * T := ⟨_, rfl⟩
  obtain ⟨Q, hQ⟩ : ∃ Q, Q = O + i * T + C := ⟨_, rfl⟩
  have hit : i * T ≤ 64 * 64 := Nat.mul_le_mul hi hT
  have e1 : IntKind.i64.wrap ((i : Int) * (T : Int)) = (I : Int) := by rw [← Int.natCast_mul, ← hI]; exact IntWalk.i64_in _ (by omega)
  have e2 : IntKind.i64.wrap ((O : Int) + (I : Int)) = (P : Int) := by rw [show (O : Int) + (I : Int) = (P : Int) by omega]; exact IntWalk.i64_in _ (by omega)
  have e3 : IntKind.i64.wrap ((P : Int) + (C : Int)) = (Q : Int) := by rw [show (P : Int) + (C : Int) = (Q : Int) by omega]; exact IntWalk.i64_in _ (by omega)
  have g1 : (P : Int) ≤ (Q : Int) := by omega
  have g2 : (Q : Int) ≤ (cap : Int) := by omega
  have g3 : Q - P = C := by omega
  have g4 : P ≤ cap := by omega
  have g5 : ¬ cap = P := by omega
  rw [← hP]
  clear hI hP hQ hit hf hc hO
  go_enter Try.func82, Try.ntmps82
  go_wp2
  go_ret
  exact ⟨rfl, Bw⟩
section
variable {L : Nat → Nat → Prop} {p : Prt} {m : Nat → Nat → Nat}
theorem wi_row (h : p.ok L) {i : Nat} (hi : i < p.R) (hC : 0 < p.C) {w : World} :
    Calls Try.prog 82 #[p.val, .int .i64 (i : Int)] w fun e W' => e = .returned (.slice (some ⟨p.S, p.at i 0, none⟩) p.C (p.cap - (p.O + i * p.T))) ∧ Below w.heap.size w W' :=
  wi_row0 h.o h.t (by have := h.r; omega) hC h.c (h.bound hi hC) h.nc
theorem wi_blk0 {S B N cap O R C T i j r c : Nat} {w : World} (hv : mayW (R : Int) (C : Int) (T : Int) (O : Int) 1048576 = true) (ho : outP (R : Int) (C : Int) (i : Int) (j : Int) (r : Int) (c : Int) = false) :
    Calls Try.prog 79 #[.agg #[.int .i64 (R : Int), .int .i64 (C : Int), .int .i64 (T : Int), .int .i64 (O : Int), .slice (some ⟨S, B, none⟩) N cap], .int .i64 (i : Int), .int .i64 (j : Int), .int .i64 (r : Int), .int .i64 (c : Int)] w fun e W' => e = .returned (.agg #[.int .i64 (r : Int), .int .i64 (c : Int), .int .i64 (T : Int), .int .i64 ((O + i * T + j : Nat) : Int), .slice (some ⟨S, B, none⟩) N cap]) ∧ Below w.heap.size w W' := by
  obtain ⟨B0, G1, G2, hw⟩ := vboxm w #[.int .i64 (R : Int), .int .i64 (C : Int), .int .i64 (T : Int), .int .i64 (O : Int), .slice (some ⟨S, B, none⟩) N cap] #[.int .i64 0, .int .i64 0, .int .i64 0, .int .i64 0, .slice none 0 0] 82 82 _ rfl
  have hp := fun W => view_part (R := (R : Int)) (C := (C : Int)) (S := (T : Int)) (O := (O : Int)) (i := (i : Int)) (j := (j : Int)) (rows := (r : Int)) (cols := (c : Int)) (w := W) hv ho
  obtain ⟨P, hP⟩ : ∃ P : Nat, P = O + i * T + j := ⟨_, rfl⟩
  rw [show (O : Int) + (i : Int) * (T : Int) + (j : Int) = (P : Int) by rw [hP, Int.natCast_add, Int.natCast_add, Int.natCast_mul]] at hp
  rw [← hP]
  have c0 := G1.cell (i := 0) rfl
  have c1 := G1.cell (i := 1) rfl
  have c2 := G1.cell (i := 2) rfl
  have c3 := G1.cell (i := 3) rfl
  have HP := Lib.hid hp
  clear hp hv ho hP hw
  go_enter Try.func79, Try.ntmps79
  go_wp2_with fail
  generalize (w.alloc (.cells #[.int .i64 (R : Int), .int .i64 (C : Int), .int .i64 (T : Int), .int .i64 (O : Int), .slice (some ⟨S, B, none⟩) N cap] 82)).alloc (.cells #[.int .i64 0, .int .i64 0, .int .i64 0, .int .i64 0, .slice none 0 0] 82) = W0 at *
  refine (HP.out _).mono ?_
  rintro e w1 ⟨rfl, b1⟩
  obtain ⟨b2, G3⟩ := mbox w1 #[.int .i64 (r : Int), .int .i64 (c : Int), .int .i64 (T : Int), .int .i64 (P : Int)] 38 _ rfl
  have K1 := (G1.behind b1).behind b2
  have K2 := (G2.behind b1).behind b2
  have c4 := K1.cell (i := 4) rfl
  have d0 := G3.cell (i := 0) rfl
  have d1 := G3.cell (i := 1) rfl
  have d2 := G3.cell (i := 2) rfl
  have d3 := G3.cell (i := 3) rfl
  have g0 := K2.cell (i := 0) rfl
  have g1 := K2.cell (i := 1) rfl
  have g2 := K2.cell (i := 2) rfl
  have g3 := K2.cell (i := 3) rfl
  have g4 := K2.cell (i := 4) rfl
  have f0 := K2.f 0
  have f1 := K2.f 1
  have f2 := K2.f 2
  have f3 := K2.f 3
  have f4 := K2.f 4
  have HB := Lib.hid (below_both B0 (below_both b1 b2))
  clear G1 G2 G3 K1 K2 b1 b2 B0 c0 c1 c2 c3
  go_wp2
  exact bodyPost_ret (v := .agg #[.int .i64 (r : Int), .int .i64 (c : Int), .int .i64 (T : Int), .int .i64 (P : Int), .slice (some ⟨S, B, none⟩) N cap]) (by simp [results, Try.results79, go_sem, g0, g1, g2, g3, g4]) rfl ⟨rfl, below_put5 HB.out (by omega) _ _ _ _ _⟩
theorem wi_blk (h : p.ok L) {i j r c : Nat} (hi : i + r ≤ p.R) (hj : j + c ≤ p.C) (hR : 0 < p.R) (hC : 0 < p.C) {w : World} :
    Calls Try.prog 79 #[p.val, .int .i64 (i : Int), .int .i64 (j : Int), .int .i64 (r : Int), .int .i64 (c : Int)] w fun e W' => e = .returned (p.blk i j r c).val ∧ Below w.heap.size w W' :=
  wi_blk0 (h.may hR hC) (decide_eq_false (by have := h.r; have := h.c; omega))
set_option maxRecDepth 100000 in
set_option maxHeartbeats 16000000 in
theorem wi_col {b g s n u k : Nat} {X : Nat → Prop} {w : World} (hs : St L X b g s n u k m w) (h : p.ok L) {j : Nat} (hj : j < p.C) (hR : 0 < p.R) :
    Calls Try.prog 81 #[p.val, .int .i64 (j : Int)] w fun e W' => ∃ d c, e = .returned (.slice (some ⟨d, 0, none⟩) p.R c) ∧ OwnK .u64 49 w.heap.size W' (.slice (some ⟨d, 0, none⟩) p.R c) (zn (rowV p.R fun i => p.get m i j)) ∧ Below w.heap.size w W' := by
  obtain ⟨S, B, N, cap, O, R, C, T⟩ := p
  have hC0 : 0 < C := by have hj' : j < C := hj; omega
  have hR1 : R ≤ 64 := h.r
  have hjC : j < C := hj
  have hRp : 0 < R := hR
  obtain ⟨f, hf⟩ : ∃ f, f = fun i => (Prt.mk S B N cap O R C T).get m i j := ⟨_, rfl⟩
  have HK : Hid (∀ k, k < R → ∃ P q x : Nat, (∀ W : World, Calls Try.prog 82 #[.agg #[.int .i64 (R : Int), .int .i64 (C : Int), .int .i64 (T : Int), .int .i64 (O : Int), .slice (some ⟨S, B, none⟩) N cap], .int .i64 (k : Int)] W fun e W' => e = .returned (.slice (some ⟨S, P, none⟩) C q) ∧ Below W.heap.size W W') ∧ (∀ W, Below w.heap.size w W → W.cell? ⟨S, P + j, none⟩ = some (.int .u64 (x : Int))) ∧ x = f k ∧ (x : Int) ≤ 18446744073709551615) := Lib.hid (fun k hk => by
    have hp : (Prt.mk S B N cap O R C T).at k 0 + j = (Prt.mk S B N cap O R C T).at k j := by unfold Prt.at; dsimp only; omega
    refine ⟨(Prt.mk S B N cap O R C T).at k 0, cap - (O + k * T), (Prt.mk S B N cap O R C T).get m k j, fun W => wi_row h hk hC0, fun W hb => ?_, by rw [hf], ?_⟩
    · rw [hp]
      exact ((hs.behind hb).cell (h.lv k j hk hj))
    · have := hs.me.lw S ((Prt.mk S B N cap O R C T).at k j)
      show ((m S _ : Nat) : Int) ≤ _
      omega)
  have hgoal : (fun i => (Prt.mk S B N cap O R C T).get m i j) = f := hf.symm
  rw [hgoal]
  obtain ⟨Z, hZ⟩ : ∃ z, z = fun k => upd f (List.replicate R 0) k := ⟨_, rfl⟩
  have HZ0 : Hid (List.replicate R (0 : Int) = zn (Z 0)) := Lib.hid (by rw [hZ]; dsimp only; rw [upd_zero]; unfold zn; rw [List.map_replicate]; rfl)
  have HZS : Hid (∀ k (x : Nat), x = f k → (zn (Z k)).set k (x : Int) = zn (Z (k + 1))) := Lib.hid (fun k x hx => by rw [hx, hZ]; dsimp only; rw [upd_succ, zn_set])
  have HZE : Hid (zn (Z R) = zn (rowV R f)) := Lib.hid (by
    rw [hZ]
    have := upd_all f (List.replicate R 0)
    rw [List.length_replicate] at this
    dsimp only
    rw [this]; rfl)
  have HZL : Hid (∀ k, (zn (Z k)).length = R) := Lib.hid (fun k => by rw [zn_length, hZ]; dsimp only; rw [upd_length, List.length_replicate])
  show Calls Try.prog 81 #[.agg #[.int .i64 (R : Int), .int .i64 (C : Int), .int .i64 (T : Int), .int .i64 (O : Int), .slice (some ⟨S, B, none⟩) N cap], .int .i64 (j : Int)] w fun e W' => ∃ d c, e = .returned (.slice (some ⟨d, 0, none⟩) R c) ∧ OwnK .u64 49 w.heap.size W' (.slice (some ⟨d, 0, none⟩) R c) (zn (rowV R f)) ∧ Below w.heap.size w W'
  rw [← HZE.out]
  obtain ⟨B0, G⟩ := mbox w #[.int .i64 (R : Int), .int .i64 (C : Int), .int .i64 (T : Int), .int .i64 (O : Int), .slice (some ⟨S, B, none⟩) N cap] 82 _ rfl
  have c0 := G.cell (i := 0) rfl
  have hmk := makeN_u64 R (by omega)
  have hfull := fun W => OwnK.full .u64 49 W R (by omega)
  have HFU := Lib.hid hfull
  have HMK := Lib.hid hmk
  have hR64 : (R : Int) ≤ 64 := by omega
  have hj64 : (j : Int) < (C : Int) := by omega
  clear hs h hj hR hR1 hf hgoal hZ hC0 hmk hfull
  have hmk := HMK.out
  go_enter Try.func81, Try.ntmps81
  go_wp2
  have hs0 : (w.alloc (.cells #[.int .i64 (R : Int), .int .i64 (C : Int), .int .i64 (T : Int), .int .i64 (O : Int), .slice (some ⟨S, B, none⟩) N cap] 82)).heap.size = w.heap.size + 1 := World.size_alloc _ _
  generalize w.alloc (.cells #[.int .i64 (R : Int), .int .i64 (C : Int), .int .i64 (T : Int), .int .i64 (O : Int), .slice (some ⟨S, B, none⟩) N cap] 82) = W0 at *
  have ho := HFU.out W0
  have k1 := newb W0 (.cells (madeCells #[.int .u64 0] R) 49)
  have G1 := G.behind k1
  have B1 := below_both B0 k1
  have HD : Hid (w.heap.size ≤ W0.heap.size) := Lib.hid B0.size
  obtain ⟨d, hd⟩ : ∃ d, d = w.heap.size + 1 := ⟨_, rfl⟩
  rw [hs0, ← hd] at ho
  rw [← hd]
  rw [HZ0.out] at ho
  have HO := Lib.hid (OwnK.mono ho (show w.heap.size ≤ d by omega))
  have HDD : Hid (w.heap.size < d) := Lib.hid (by omega)
  generalize W0.alloc (.cells (madeCells #[.int .u64 0] R) 49) = W1 at *
  have HG := Lib.hid G1
  have HB := Lib.hid B1
  clear ho k1 G G1 B1 B0 c0 hd hmk hs0
  go_loopw [13] (fun i wr => ∃ k : Nat, k ≤ R ∧ i = .int .i64 k ∧ OwnK .u64 49 w.heap.size wr (.slice (some ⟨d, 0, none⟩) R R) (zn (Z k)) ∧ But1 d W1 wr ∧ Below w.heap.size w wr) (fun i _ => R - (intOf i).toNat)
  case atStart => exact ⟨0, Nat.zero_le _, rfl, HO.out, But1.refl _ _, HB.out⟩
  case round =>
    obtain ⟨k, hk, rfl, ho, hU, hBb⟩ := hrel
    by_cases hlt : k < R
    · obtain ⟨P, q, x, h1, h2, h3, h4⟩ := HK.out k hlt
      have g := hU.ms HG.out (by have := HDD.out; omega)
      have c0 := g.cell (i := 0) rfl
      have c1 := g.cell (i := 1) rfl
      have c2 := g.cell (i := 2) rfl
      have c3 := g.cell (i := 3) rfl
      have c4 := g.cell (i := 4) rfl
      have q1 : decide ((k : Int) < (R : Int)) = true := decide_eq_true (by omega)
      have HRW := Lib.hid h1
      have HCX := Lib.hid h2
      have HST := Lib.hid (HZS.out k x h3)
      have HOO := Lib.hid ho
      have HUU := Lib.hid hU
      have HBB := Lib.hid hBb
      clear h1 h2 h3 ho hU hBb g
      go_wp2_with fail
      refine (HRW.out _).mono ?_
      rintro e w2 ⟨rfl, b2⟩
      have ho2 := HOO.out.below b2
      have kx := HCX.out _ (HBB.out.trans (b2.mono HBB.out.size))
      have f2 := ho2.frozen k
      have hzk : k < (zn (Z k)).length := by rw [HZL.out]; exact hlt
      have kc := ho2.cell hzk
      have HO2 := Lib.hid ho2
      have HU2 := Lib.hid (HUU.out.below b2)
      have HB2 := Lib.hid (HBB.out.trans (b2.mono HBB.out.size))
      clear b2 c0 c1 c2 c3 c4 ho2 hzk
      generalize zat (zn (Z k)) k = old at *
      go_wp2
      exact ⟨⟨k + 1, by omega, by simp, by rw [← HST.out]; exact HO2.out.set k x, HU2.out.put (fun q hq => Below.heap_setCell w2 ⟨d, k, none⟩ _ q hq) (World.size_setCell _ _ _), HB2.out.setCell (p := ⟨d, k, none⟩) (show w.heap.size ≤ d by have := HDD.out; omega) _⟩, by simp [intOf]; omega⟩
    · obtain rfl : k = R := by omega
      have q1 : decide ((k : Int) < (k : Int)) = false := decide_eq_false (by omega)
      have HOO := Lib.hid ho
      have HBB := Lib.hid hBb
      clear ho hU hBb hlt
      go_wp2
      go_ret
      exact ⟨d, k, rfl, HOO.out, HBB.out⟩
set_option maxRecDepth 100000 in
set_option maxHeartbeats 16000000 in
theorem wi_quarters0 {S B N cap O R C T r c O1 O2 O3 O4 : Nat} {w : World}
    (hr : ((R : Int)) / 2 = (r : Int)) (hc : ((C : Int)) / 2 = (c : Int)) (hr64 : r ≤ 64) (hc64 : c ≤ 64) (V : Nat → Value) (hV : V = fun O => .agg #[.int .i64 (r : Int), .int .i64 (c : Int), .int .i64 (T : Int), .int .i64 (O : Int), .slice (some ⟨S, B, none⟩) N cap])
    (H1 : ∀ w : World, Calls Try.prog 79 #[.agg #[.int .i64 (R : Int), .int .i64 (C : Int), .int .i64 (T : Int), .int .i64 (O : Int), .slice (some ⟨S, B, none⟩) N cap], .int .i64 0, .int .i64 0, .int .i64 (r : Int), .int .i64 (c : Int)] w fun e W' => e = .returned (V O1) ∧ Below w.heap.size w W')
    (H2 : ∀ w : World, Calls Try.prog 79 #[.agg #[.int .i64 (R : Int), .int .i64 (C : Int), .int .i64 (T : Int), .int .i64 (O : Int), .slice (some ⟨S, B, none⟩) N cap], .int .i64 0, .int .i64 (c : Int), .int .i64 (r : Int), .int .i64 (c : Int)] w fun e W' => e = .returned (V O2) ∧ Below w.heap.size w W')
    (H3 : ∀ w : World, Calls Try.prog 79 #[.agg #[.int .i64 (R : Int), .int .i64 (C : Int), .int .i64 (T : Int), .int .i64 (O : Int), .slice (some ⟨S, B, none⟩) N cap], .int .i64 (r : Int), .int .i64 0, .int .i64 (r : Int), .int .i64 (c : Int)] w fun e W' => e = .returned (V O3) ∧ Below w.heap.size w W')
    (H4 : ∀ w : World, Calls Try.prog 79 #[.agg #[.int .i64 (R : Int), .int .i64 (C : Int), .int .i64 (T : Int), .int .i64 (O : Int), .slice (some ⟨S, B, none⟩) N cap], .int .i64 (r : Int), .int .i64 (c : Int), .int .i64 (r : Int), .int .i64 (c : Int)] w fun e W' => e = .returned (V O4) ∧ Below w.heap.size w W')
    :
    Calls Try.prog 99 #[.agg #[.int .i64 (R : Int), .int .i64 (C : Int), .int .i64 (T : Int), .int .i64 (O : Int), .slice (some ⟨S, B, none⟩) N cap]] w fun e W' => e = .returned (.tuple #[V O1, V O2, V O3, V O4]) ∧ Below w.heap.size w W' := by
  subst hV
  obtain ⟨B0, G0⟩ := mbox w #[.int .i64 (R : Int), .int .i64 (C : Int), .int .i64 (T : Int), .int .i64 (O : Int), .slice (some ⟨S, B, none⟩) N cap] 82 _ rfl
  obtain ⟨j1, G1⟩ := mbox (w.alloc (.cells #[.int .i64 (R : Int), .int .i64 (C : Int), .int .i64 (T : Int), .int .i64 (O : Int), .slice (some ⟨S, B, none⟩) N cap] 82)) #[.int .i64 0, .int .i64 0, .int .i64 0, .int .i64 0, .slice none 0 0] 82 _ rfl
  replace G0 := G0.behind j1
  replace B0 := below_both B0 j1
  obtain ⟨j2, G2⟩ := mbox ((w.alloc (.cells #[.int .i64 (R : Int), .int .i64 (C : Int), .int .i64 (T : Int), .int .i64 (O : Int), .slice (some ⟨S, B, none⟩) N cap] 82)).alloc (.cells #[.int .i64 0, .int .i64 0, .int .i64 0, .int .i64 0, .slice none 0 0] 82)) #[.int .i64 0, .int .i64 0, .int .i64 0, .int .i64 0, .slice none 0 0] 82 _ rfl
  replace G0 := G0.behind j2
  replace G1 := G1.behind j2
  replace B0 := below_both B0 j2
  obtain ⟨j3, G3⟩ := mbox (((w.alloc (.cells #[.int .i64 (R : Int), .int .i64 (C : Int), .int .i64 (T : Int), .int .i64 (O : Int), .slice (some ⟨S, B, none⟩) N cap] 82)).alloc (.cells #[.int .i64 0, .int .i64 0, .int .i64 0, .int .i64 0, .slice none 0 0] 82)).alloc (.cells #[.int .i64 0, .int .i64 0, .int .i64 0, .int .i64 0, .slice none 0 0] 82)) #[.int .i64 0, .int .i64 0, .int .i64 0, .int .i64 0, .slice none 0 0] 82 _ rfl
  replace G0 := G0.behind j3
  replace G1 := G1.behind j3
  replace G2 := G2.behind j3
  replace B0 := below_both B0 j3
  obtain ⟨j4, G4⟩ := mbox ((((w.alloc (.cells #[.int .i64 (R : Int), .int .i64 (C : Int), .int .i64 (T : Int), .int .i64 (O : Int), .slice (some ⟨S, B, none⟩) N cap] 82)).alloc (.cells #[.int .i64 0, .int .i64 0, .int .i64 0, .int .i64 0, .slice none 0 0] 82)).alloc (.cells #[.int .i64 0, .int .i64 0, .int .i64 0, .int .i64 0, .slice none 0 0] 82)).alloc (.cells #[.int .i64 0, .int .i64 0, .int .i64 0, .int .i64 0, .slice none 0 0] 82)) #[.int .i64 0, .int .i64 0, .int .i64 0, .int .i64 0, .slice none 0 0] 82 _ rfl
  replace G0 := G0.behind j4
  replace G1 := G1.behind j4
  replace G2 := G2.behind j4
  replace G3 := G3.behind j4
  replace B0 := below_both B0 j4
  simp only [World.size_alloc] at G1 G2 G3 G4
  have c0 := G0.cell (i := 0) rfl
  have c1 := G0.cell (i := 1) rfl
  have e1 : wrap64 (r : Int) = (r : Int) := IntWalk.wrap64_in _ (by omega)
  have e2 : wrap64 (c : Int) = (c : Int) := IntWalk.wrap64_in _ (by omega)
  have H1 := Lib.hid H1
  have H2 := Lib.hid H2
  have H3 := Lib.hid H3
  have H4 := Lib.hid H4
  clear j1 j2 j3 j4
  go_enter Try.func99, Try.ntmps99
  go_upto_region 1 with (fail)
  generalize (((((w.alloc (.cells #[.int .i64 (R : Int), .int .i64 (C : Int), .int .i64 (T : Int), .int .i64 (O : Int), .slice (some ⟨S, B, none⟩) N cap] 82)).alloc (.cells #[.int .i64 0, .int .i64 0, .int .i64 0, .int .i64 0, .slice none 0 0] 82)).alloc (.cells #[.int .i64 0, .int .i64 0, .int .i64 0, .int .i64 0, .slice none 0 0] 82)).alloc (.cells #[.int .i64 0, .int .i64 0, .int .i64 0, .int .i64 0, .slice none 0 0] 82)).alloc (.cells #[.int .i64 0, .int .i64 0, .int .i64 0, .int .i64 0, .slice none 0 0] 82)) = W0 at *
  go_cut [6, 7] from 6 to 15 (fun x y wz => x = .int .i64 (r : Int) ∧ y = .int .i64 (c : Int) ∧ Below W0.heap.size W0 wz)
  case first =>
    go_quiet (fail)
    go_wp2_with fail
    go_meet
    exact ⟨rfl, rfl, below_drewN _ _ _⟩
  obtain ⟨rfl, rfl, bV⟩ := hcut
  obtain ⟨W1, rfl⟩ : ∃ wo, wo = wc := ⟨_, rfl⟩
  have HB0 := Lib.hid (below_both B0 bV)
  have HG0 := Lib.hid (G0.behind bV)
  have HG1 := Lib.hid (G1.behind bV)
  have HG2 := Lib.hid (G2.behind bV)
  have HG3 := Lib.hid (G3.behind bV)
  have HG4 := Lib.hid (G4.behind bV)
  clear G0 G1 G2 G3 G4 B0 bV c0 c1 hr hc e1 e2 hr64 hc64
  go_upto_region 2 with (fail)
  have HK : Hid (∀ W, Below W1.heap.size W1 W → W.cell? ⟨w.heap.size, 0, none⟩ = some (.int .i64 (R : Int)) ∧ W.cell? ⟨w.heap.size, 1, none⟩ = some (.int .i64 (C : Int)) ∧ W.cell? ⟨w.heap.size, 2, none⟩ = some (.int .i64 (T : Int)) ∧ W.cell? ⟨w.heap.size, 3, none⟩ = some (.int .i64 (O : Int)) ∧ W.cell? ⟨w.heap.size, 4, none⟩ = some (.slice (some ⟨S, B, none⟩) N cap)) := Lib.hid (fun W h =>
    ⟨(HG0.out.behind h).cell (i := 0) rfl, (HG0.out.behind h).cell (i := 1) rfl, (HG0.out.behind h).cell (i := 2) rfl, (HG0.out.behind h).cell (i := 3) rfl, (HG0.out.behind h).cell (i := 4) rfl⟩)
  have Br : Below W1.heap.size W1 W1 := Below.refl _ _
  have HP : ∀ (W : World) (g : Nat) (x0 x1 x2 x3 x4 : Value), w.heap.size ≠ g → (W.cell? ⟨w.heap.size, 0, none⟩ = some (.int .i64 (R : Int)) ∧ W.cell? ⟨w.heap.size, 1, none⟩ = some (.int .i64 (C : Int)) ∧ W.cell? ⟨w.heap.size, 2, none⟩ = some (.int .i64 (T : Int)) ∧ W.cell? ⟨w.heap.size, 3, none⟩ = some (.int .i64 (O : Int)) ∧ W.cell? ⟨w.heap.size, 4, none⟩ = some (.slice (some ⟨S, B, none⟩) N cap)) → (fun W : World => (W.cell? ⟨w.heap.size, 0, none⟩ = some (.int .i64 (R : Int)) ∧ W.cell? ⟨w.heap.size, 1, none⟩ = some (.int .i64 (C : Int)) ∧ W.cell? ⟨w.heap.size, 2, none⟩ = some (.int .i64 (T : Int)) ∧ W.cell? ⟨w.heap.size, 3, none⟩ = some (.int .i64 (O : Int)) ∧ W.cell? ⟨w.heap.size, 4, none⟩ = some (.slice (some ⟨S, B, none⟩) N cap))) (put5 W g x0 x1 x2 x3 x4) := fun W g x0 x1 x2 x3 x4 hn ⟨h0, h1, h2, h3, h4⟩ => by
    have hh : (put5 W g x0 x1 x2 x3 x4).heap[w.heap.size]? = W.heap[w.heap.size]? := heap_put5 hn
    have hc : ∀ i, (put5 W g x0 x1 x2 x3 x4).cell? ⟨w.heap.size, i, none⟩ = W.cell? ⟨w.heap.size, i, none⟩ := fun i => by simp only [World.cell?]; rw [hh]
    exact ⟨(hc 0).trans h0, (hc 1).trans h1, (hc 2).trans h2, (hc 3).trans h3, (hc 4).trans h4⟩
  have n1 : w.heap.size ≠ w.heap.size + 1 := by omega
  have n2 : w.heap.size ≠ w.heap.size + 1 + 1 := by omega
  have n3 : w.heap.size ≠ w.heap.size + 1 + 1 + 1 := by omega
  have n4 : w.heap.size ≠ w.heap.size + 1 + 1 + 1 + 1 := by omega
  go_region_held3 (fun W => W.cell? ⟨w.heap.size, 0, none⟩ = some (.int .i64 (R : Int)) ∧ W.cell? ⟨w.heap.size, 1, none⟩ = some (.int .i64 (C : Int)) ∧ W.cell? ⟨w.heap.size, 2, none⟩ = some (.int .i64 (T : Int)) ∧ W.cell? ⟨w.heap.size, 3, none⟩ = some (.int .i64 (O : Int)) ∧ W.cell? ⟨w.heap.size, 4, none⟩ = some (.slice (some ⟨S, B, none⟩) N cap))
    (first | with_reducible exact HK.out _ Br | with_reducible exact HK.out _ Br.drew | exact HP _ _ _ _ _ _ _ n1 (HK.out _ Br) | exact HP _ _ _ _ _ _ _ n2 (HP _ _ _ _ _ _ _ n1 (HK.out _ Br)) | exact HP _ _ _ _ _ _ _ n3 (HP _ _ _ _ _ _ _ n2 (HP _ _ _ _ _ _ _ n1 (HK.out _ Br))) | exact HP _ _ _ _ _ _ _ n4 (HP _ _ _ _ _ _ _ n3 (HP _ _ _ _ _ _ _ n2 (HP _ _ _ _ _ _ _ n1 (HK.out _ Br)))))
    (first
      | (go_at_call 79; (first | (with_reducible refine (H1.out _).mono ?_) | (with_reducible refine (H2.out _).mono ?_) | (with_reducible refine (H3.out _).mono ?_) | (with_reducible refine (H4.out _).mono ?_)); rintro e v4 ⟨rfl, bz⟩; (try clear a10 f10 a11 f11 a12 f12 a13 f13 a14 f14 a20 f20 a21 f21 a22 f22 a23 f23 a24 f24 a30 f30 a31 f31 a32 f32 a33 f33 a34 f34 a40 f40 a41 f41 a42 f42 a43 f43 a44 f44); replace Br : Below W1.heap.size W1 v4 := (by first | with_reducible exact below_both Br bz | with_reducible exact below_both Br.drew bz); clear bz; have a10 := (HG1.out.behind Br).cell (i := 0) rfl; have f10 := (HG1.out.behind Br).f 0; have a11 := (HG1.out.behind Br).cell (i := 1) rfl; have f11 := (HG1.out.behind Br).f 1; have a12 := (HG1.out.behind Br).cell (i := 2) rfl; have f12 := (HG1.out.behind Br).f 2; have a13 := (HG1.out.behind Br).cell (i := 3) rfl; have f13 := (HG1.out.behind Br).f 3; have a14 := (HG1.out.behind Br).cell (i := 4) rfl; have f14 := (HG1.out.behind Br).f 4; have a20 := (HG2.out.behind Br).cell (i := 0) rfl; have f20 := (HG2.out.behind Br).f 0; have a21 := (HG2.out.behind Br).cell (i := 1) rfl; have f21 := (HG2.out.behind Br).f 1; have a22 := (HG2.out.behind Br).cell (i := 2) rfl; have f22 := (HG2.out.behind Br).f 2; have a23 := (HG2.out.behind Br).cell (i := 3) rfl; have f23 := (HG2.out.behind Br).f 3; have a24 := (HG2.out.behind Br).cell (i := 4) rfl; have f24 := (HG2.out.behind Br).f 4; have a30 := (HG3.out.behind Br).cell (i := 0) rfl; have f30 := (HG3.out.behind Br).f 0; have a31 := (HG3.out.behind Br).cell (i := 1) rfl; have f31 := (HG3.out.behind Br).f 1; have a32 := (HG3.out.behind Br).cell (i := 2) rfl; have f32 := (HG3.out.behind Br).f 2; have a33 := (HG3.out.behind Br).cell (i := 3) rfl; have f33 := (HG3.out.behind Br).f 3; have a34 := (HG3.out.behind Br).cell (i := 4) rfl; have f34 := (HG3.out.behind Br).f 4; have a40 := (HG4.out.behind Br).cell (i := 0) rfl; have f40 := (HG4.out.behind Br).f 0; have a41 := (HG4.out.behind Br).cell (i := 1) rfl; have f41 := (HG4.out.behind Br).f 1; have a42 := (HG4.out.behind Br).cell (i := 2) rfl; have f42 := (HG4.out.behind Br).f 2; have a43 := (HG4.out.behind Br).cell (i := 3) rfl; have f43 := (HG4.out.behind Br).f 3; have a44 := (HG4.out.behind Br).cell (i := 4) rfl; have f44 := (HG4.out.behind Br).f 4)
      | (fail))
  all_goals
    have M1 := HG1.out.behind Br
    have M2 := HG2.out.behind Br
    have M3 := HG3.out.behind Br
    have M4 := HG4.out.behind Br
    have L1 : Ms ((((((((((((((((((((v4.setCell ⟨w.heap.size + 1, 0, none⟩ (.int .i64 (r : Int))).setCell ⟨w.heap.size + 1, 1, none⟩ (.int .i64 (c : Int))).setCell ⟨w.heap.size + 1, 2, none⟩ (.int .i64 (T : Int))).setCell ⟨w.heap.size + 1, 3, none⟩ (.int .i64 (O1 : Int))).setCell ⟨w.heap.size + 1, 4, none⟩ (.slice (some ⟨S, B, none⟩) N cap)).setCell ⟨w.heap.size + 1 + 1, 0, none⟩ (.int .i64 (r : Int))).setCell ⟨w.heap.size + 1 + 1, 1, none⟩ (.int .i64 (c : Int))).setCell ⟨w.heap.size + 1 + 1, 2, none⟩ (.int .i64 (T : Int))).setCell ⟨w.heap.size + 1 + 1, 3, none⟩ (.int .i64 (O2 : Int))).setCell ⟨w.heap.size + 1 + 1, 4, none⟩ (.slice (some ⟨S, B, none⟩) N cap)).setCell ⟨w.heap.size + 1 + 1 + 1, 0, none⟩ (.int .i64 (r : Int))).setCell ⟨w.heap.size + 1 + 1 + 1, 1, none⟩ (.int .i64 (c : Int))).setCell ⟨w.heap.size + 1 + 1 + 1, 2, none⟩ (.int .i64 (T : Int))).setCell ⟨w.heap.size + 1 + 1 + 1, 3, none⟩ (.int .i64 (O3 : Int))).setCell ⟨w.heap.size + 1 + 1 + 1, 4, none⟩ (.slice (some ⟨S, B, none⟩) N cap)).setCell ⟨w.heap.size + 1 + 1 + 1 + 1, 0, none⟩ (.int .i64 (r : Int))).setCell ⟨w.heap.size + 1 + 1 + 1 + 1, 1, none⟩ (.int .i64 (c : Int))).setCell ⟨w.heap.size + 1 + 1 + 1 + 1, 2, none⟩ (.int .i64 (T : Int))).setCell ⟨w.heap.size + 1 + 1 + 1 + 1, 3, none⟩ (.int .i64 (O4 : Int))).setCell ⟨w.heap.size + 1 + 1 + 1 + 1, 4, none⟩ (.slice (some ⟨S, B, none⟩) N cap)) (w.heap.size + 1) #[.int .i64 (r : Int), .int .i64 (c : Int), .int .i64 (T : Int), .int .i64 (O1 : Int), .slice (some ⟨S, B, none⟩) N cap] 82 := (ms_past5 (ms_past5 (ms_past5 (ms_put5 M1) (by omega)) (by omega)) (by omega))
    have L2 : Ms ((((((((((((((((((((v4.setCell ⟨w.heap.size + 1, 0, none⟩ (.int .i64 (r : Int))).setCell ⟨w.heap.size + 1, 1, none⟩ (.int .i64 (c : Int))).setCell ⟨w.heap.size + 1, 2, none⟩ (.int .i64 (T : Int))).setCell ⟨w.heap.size + 1, 3, none⟩ (.int .i64 (O1 : Int))).setCell ⟨w.heap.size + 1, 4, none⟩ (.slice (some ⟨S, B, none⟩) N cap)).setCell ⟨w.heap.size + 1 + 1, 0, none⟩ (.int .i64 (r : Int))).setCell ⟨w.heap.size + 1 + 1, 1, none⟩ (.int .i64 (c : Int))).setCell ⟨w.heap.size + 1 + 1, 2, none⟩ (.int .i64 (T : Int))).setCell ⟨w.heap.size + 1 + 1, 3, none⟩ (.int .i64 (O2 : Int))).setCell ⟨w.heap.size + 1 + 1, 4, none⟩ (.slice (some ⟨S, B, none⟩) N cap)).setCell ⟨w.heap.size + 1 + 1 + 1, 0, none⟩ (.int .i64 (r : Int))).setCell ⟨w.heap.size + 1 + 1 + 1, 1, none⟩ (.int .i64 (c : Int))).setCell ⟨w.heap.size + 1 + 1 + 1, 2, none⟩ (.int .i64 (T : Int))).setCell ⟨w.heap.size + 1 + 1 + 1, 3, none⟩ (.int .i64 (O3 : Int))).setCell ⟨w.heap.size + 1 + 1 + 1, 4, none⟩ (.slice (some ⟨S, B, none⟩) N cap)).setCell ⟨w.heap.size + 1 + 1 + 1 + 1, 0, none⟩ (.int .i64 (r : Int))).setCell ⟨w.heap.size + 1 + 1 + 1 + 1, 1, none⟩ (.int .i64 (c : Int))).setCell ⟨w.heap.size + 1 + 1 + 1 + 1, 2, none⟩ (.int .i64 (T : Int))).setCell ⟨w.heap.size + 1 + 1 + 1 + 1, 3, none⟩ (.int .i64 (O4 : Int))).setCell ⟨w.heap.size + 1 + 1 + 1 + 1, 4, none⟩ (.slice (some ⟨S, B, none⟩) N cap)) (w.heap.size + 1 + 1) #[.int .i64 (r : Int), .int .i64 (c : Int), .int .i64 (T : Int), .int .i64 (O2 : Int), .slice (some ⟨S, B, none⟩) N cap] 82 := (ms_past5 (ms_past5 (ms_put5 (ms_past5 M2 (by omega))) (by omega)) (by omega))
    have L3 : Ms ((((((((((((((((((((v4.setCell ⟨w.heap.size + 1, 0, none⟩ (.int .i64 (r : Int))).setCell ⟨w.heap.size + 1, 1, none⟩ (.int .i64 (c : Int))).setCell ⟨w.heap.size + 1, 2, none⟩ (.int .i64 (T : Int))).setCell ⟨w.heap.size + 1, 3, none⟩ (.int .i64 (O1 : Int))).setCell ⟨w.heap.size + 1, 4, none⟩ (.slice (some ⟨S, B, none⟩) N cap)).setCell ⟨w.heap.size + 1 + 1, 0, none⟩ (.int .i64 (r : Int))).setCell ⟨w.heap.size + 1 + 1, 1, none⟩ (.int .i64 (c : Int))).setCell ⟨w.heap.size + 1 + 1, 2, none⟩ (.int .i64 (T : Int))).setCell ⟨w.heap.size + 1 + 1, 3, none⟩ (.int .i64 (O2 : Int))).setCell ⟨w.heap.size + 1 + 1, 4, none⟩ (.slice (some ⟨S, B, none⟩) N cap)).setCell ⟨w.heap.size + 1 + 1 + 1, 0, none⟩ (.int .i64 (r : Int))).setCell ⟨w.heap.size + 1 + 1 + 1, 1, none⟩ (.int .i64 (c : Int))).setCell ⟨w.heap.size + 1 + 1 + 1, 2, none⟩ (.int .i64 (T : Int))).setCell ⟨w.heap.size + 1 + 1 + 1, 3, none⟩ (.int .i64 (O3 : Int))).setCell ⟨w.heap.size + 1 + 1 + 1, 4, none⟩ (.slice (some ⟨S, B, none⟩) N cap)).setCell ⟨w.heap.size + 1 + 1 + 1 + 1, 0, none⟩ (.int .i64 (r : Int))).setCell ⟨w.heap.size + 1 + 1 + 1 + 1, 1, none⟩ (.int .i64 (c : Int))).setCell ⟨w.heap.size + 1 + 1 + 1 + 1, 2, none⟩ (.int .i64 (T : Int))).setCell ⟨w.heap.size + 1 + 1 + 1 + 1, 3, none⟩ (.int .i64 (O4 : Int))).setCell ⟨w.heap.size + 1 + 1 + 1 + 1, 4, none⟩ (.slice (some ⟨S, B, none⟩) N cap)) (w.heap.size + 1 + 1 + 1) #[.int .i64 (r : Int), .int .i64 (c : Int), .int .i64 (T : Int), .int .i64 (O3 : Int), .slice (some ⟨S, B, none⟩) N cap] 82 := (ms_past5 (ms_put5 (ms_past5 (ms_past5 M3 (by omega)) (by omega))) (by omega))
    have L4 : Ms ((((((((((((((((((((v4.setCell ⟨w.heap.size + 1, 0, none⟩ (.int .i64 (r : Int))).setCell ⟨w.heap.size + 1, 1, none⟩ (.int .i64 (c : Int))).setCell ⟨w.heap.size + 1, 2, none⟩ (.int .i64 (T : Int))).setCell ⟨w.heap.size + 1, 3, none⟩ (.int .i64 (O1 : Int))).setCell ⟨w.heap.size + 1, 4, none⟩ (.slice (some ⟨S, B, none⟩) N cap)).setCell ⟨w.heap.size + 1 + 1, 0, none⟩ (.int .i64 (r : Int))).setCell ⟨w.heap.size + 1 + 1, 1, none⟩ (.int .i64 (c : Int))).setCell ⟨w.heap.size + 1 + 1, 2, none⟩ (.int .i64 (T : Int))).setCell ⟨w.heap.size + 1 + 1, 3, none⟩ (.int .i64 (O2 : Int))).setCell ⟨w.heap.size + 1 + 1, 4, none⟩ (.slice (some ⟨S, B, none⟩) N cap)).setCell ⟨w.heap.size + 1 + 1 + 1, 0, none⟩ (.int .i64 (r : Int))).setCell ⟨w.heap.size + 1 + 1 + 1, 1, none⟩ (.int .i64 (c : Int))).setCell ⟨w.heap.size + 1 + 1 + 1, 2, none⟩ (.int .i64 (T : Int))).setCell ⟨w.heap.size + 1 + 1 + 1, 3, none⟩ (.int .i64 (O3 : Int))).setCell ⟨w.heap.size + 1 + 1 + 1, 4, none⟩ (.slice (some ⟨S, B, none⟩) N cap)).setCell ⟨w.heap.size + 1 + 1 + 1 + 1, 0, none⟩ (.int .i64 (r : Int))).setCell ⟨w.heap.size + 1 + 1 + 1 + 1, 1, none⟩ (.int .i64 (c : Int))).setCell ⟨w.heap.size + 1 + 1 + 1 + 1, 2, none⟩ (.int .i64 (T : Int))).setCell ⟨w.heap.size + 1 + 1 + 1 + 1, 3, none⟩ (.int .i64 (O4 : Int))).setCell ⟨w.heap.size + 1 + 1 + 1 + 1, 4, none⟩ (.slice (some ⟨S, B, none⟩) N cap)) (w.heap.size + 1 + 1 + 1 + 1) #[.int .i64 (r : Int), .int .i64 (c : Int), .int .i64 (T : Int), .int .i64 (O4 : Int), .slice (some ⟨S, B, none⟩) N cap] 82 := (ms_put5 (ms_past5 (ms_past5 (ms_past5 M4 (by omega)) (by omega)) (by omega)))
    have k10 := L1.cell (i := 0) rfl
    have k11 := L1.cell (i := 1) rfl
    have k12 := L1.cell (i := 2) rfl
    have k13 := L1.cell (i := 3) rfl
    have k14 := L1.cell (i := 4) rfl
    have k20 := L2.cell (i := 0) rfl
    have k21 := L2.cell (i := 1) rfl
    have k22 := L2.cell (i := 2) rfl
    have k23 := L2.cell (i := 3) rfl
    have k24 := L2.cell (i := 4) rfl
    have k30 := L3.cell (i := 0) rfl
    have k31 := L3.cell (i := 1) rfl
    have k32 := L3.cell (i := 2) rfl
    have k33 := L3.cell (i := 3) rfl
    have k34 := L3.cell (i := 4) rfl
    have k40 := L4.cell (i := 0) rfl
    have k41 := L4.cell (i := 1) rfl
    have k42 := L4.cell (i := 2) rfl
    have k43 := L4.cell (i := 3) rfl
    have k44 := L4.cell (i := 4) rfl
    have HBF : Hid (Below w.heap.size w ((((((((((((((((((((v4.setCell ⟨w.heap.size + 1, 0, none⟩ (.int .i64 (r : Int))).setCell ⟨w.heap.size + 1, 1, none⟩ (.int .i64 (c : Int))).setCell ⟨w.heap.size + 1, 2, none⟩ (.int .i64 (T : Int))).setCell ⟨w.heap.size + 1, 3, none⟩ (.int .i64 (O1 : Int))).setCell ⟨w.heap.size + 1, 4, none⟩ (.slice (some ⟨S, B, none⟩) N cap)).setCell ⟨w.heap.size + 1 + 1, 0, none⟩ (.int .i64 (r : Int))).setCell ⟨w.heap.size + 1 + 1, 1, none⟩ (.int .i64 (c : Int))).setCell ⟨w.heap.size + 1 + 1, 2, none⟩ (.int .i64 (T : Int))).setCell ⟨w.heap.size + 1 + 1, 3, none⟩ (.int .i64 (O2 : Int))).setCell ⟨w.heap.size + 1 + 1, 4, none⟩ (.slice (some ⟨S, B, none⟩) N cap)).setCell ⟨w.heap.size + 1 + 1 + 1, 0, none⟩ (.int .i64 (r : Int))).setCell ⟨w.heap.size + 1 + 1 + 1, 1, none⟩ (.int .i64 (c : Int))).setCell ⟨w.heap.size + 1 + 1 + 1, 2, none⟩ (.int .i64 (T : Int))).setCell ⟨w.heap.size + 1 + 1 + 1, 3, none⟩ (.int .i64 (O3 : Int))).setCell ⟨w.heap.size + 1 + 1 + 1, 4, none⟩ (.slice (some ⟨S, B, none⟩) N cap)).setCell ⟨w.heap.size + 1 + 1 + 1 + 1, 0, none⟩ (.int .i64 (r : Int))).setCell ⟨w.heap.size + 1 + 1 + 1 + 1, 1, none⟩ (.int .i64 (c : Int))).setCell ⟨w.heap.size + 1 + 1 + 1 + 1, 2, none⟩ (.int .i64 (T : Int))).setCell ⟨w.heap.size + 1 + 1 + 1 + 1, 3, none⟩ (.int .i64 (O4 : Int))).setCell ⟨w.heap.size + 1 + 1 + 1 + 1, 4, none⟩ (.slice (some ⟨S, B, none⟩) N cap))) := Lib.hid (below_put5 (below_put5 (below_put5 (below_put5 (below_both HB0.out Br) (by omega) _ _ _ _ _) (by omega) _ _ _ _ _) (by omega) _ _ _ _ _) (by omega) _ _ _ _ _)
    clear a10 f10 a11 f11 a12 f12 a13 f13 a14 f14 a20 f20 a21 f21 a22 f22 a23 f23 a24 f24 a30 f30 a31 f31 a32 f32 a33 f33 a34 f34 a40 f40 a41 f41 a42 f42 a43 f43 a44 f44 M1 M2 M3 M4 L1 L2 L3 L4
    generalize ((((((((((((((((((((v4.setCell ⟨w.heap.size + 1, 0, none⟩ (.int .i64 (r : Int))).setCell ⟨w.heap.size + 1, 1, none⟩ (.int .i64 (c : Int))).setCell ⟨w.heap.size + 1, 2, none⟩ (.int .i64 (T : Int))).setCell ⟨w.heap.size + 1, 3, none⟩ (.int .i64 (O1 : Int))).setCell ⟨w.heap.size + 1, 4, none⟩ (.slice (some ⟨S, B, none⟩) N cap)).setCell ⟨w.heap.size + 1 + 1, 0, none⟩ (.int .i64 (r : Int))).setCell ⟨w.heap.size + 1 + 1, 1, none⟩ (.int .i64 (c : Int))).setCell ⟨w.heap.size + 1 + 1, 2, none⟩ (.int .i64 (T : Int))).setCell ⟨w.heap.size + 1 + 1, 3, none⟩ (.int .i64 (O2 : Int))).setCell ⟨w.heap.size + 1 + 1, 4, none⟩ (.slice (some ⟨S, B, none⟩) N cap)).setCell ⟨w.heap.size + 1 + 1 + 1, 0, none⟩ (.int .i64 (r : Int))).setCell ⟨w.heap.size + 1 + 1 + 1, 1, none⟩ (.int .i64 (c : Int))).setCell ⟨w.heap.size + 1 + 1 + 1, 2, none⟩ (.int .i64 (T : Int))).setCell ⟨w.heap.size + 1 + 1 + 1, 3, none⟩ (.int .i64 (O3 : Int))).setCell ⟨w.heap.size + 1 + 1 + 1, 4, none⟩ (.slice (some ⟨S, B, none⟩) N cap)).setCell ⟨w.heap.size + 1 + 1 + 1 + 1, 0, none⟩ (.int .i64 (r : Int))).setCell ⟨w.heap.size + 1 + 1 + 1 + 1, 1, none⟩ (.int .i64 (c : Int))).setCell ⟨w.heap.size + 1 + 1 + 1 + 1, 2, none⟩ (.int .i64 (T : Int))).setCell ⟨w.heap.size + 1 + 1 + 1 + 1, 3, none⟩ (.int .i64 (O4 : Int))).setCell ⟨w.heap.size + 1 + 1 + 1 + 1, 4, none⟩ (.slice (some ⟨S, B, none⟩) N cap)) = WF at *
    go_wp2
    generalize w.heap.size + 1 + 1 + 1 + 1 = b4 at k10 k11 k12 k13 k14 k20 k21 k22 k23 k24 k30 k31 k32 k33 k34 k40 k41 k42 k43 k44 ⊢
    generalize w.heap.size + 1 + 1 + 1 = b3 at k10 k11 k12 k13 k14 k20 k21 k22 k23 k24 k30 k31 k32 k33 k34 k40 k41 k42 k43 k44 ⊢
    generalize w.heap.size + 1 + 1 = b2 at k10 k11 k12 k13 k14 k20 k21 k22 k23 k24 k30 k31 k32 k33 k34 k40 k41 k42 k43 k44 ⊢
    generalize w.heap.size + 1 = b1 at k10 k11 k12 k13 k14 k20 k21 k22 k23 k24 k30 k31 k32 k33 k34 k40 k41 k42 k43 k44 ⊢
    replace k10 : WF.cell? ⟨b1, 0, none⟩ = some (.int .i64 (r : Int)) := k10
    replace k11 : WF.cell? ⟨b1, 1, none⟩ = some (.int .i64 (c : Int)) := k11
    replace k12 : WF.cell? ⟨b1, 2, none⟩ = some (.int .i64 (T : Int)) := k12
    replace k13 : WF.cell? ⟨b1, 3, none⟩ = some (.int .i64 (O1 : Int)) := k13
    replace k14 : WF.cell? ⟨b1, 4, none⟩ = some (.slice (some ⟨S, B, none⟩) N cap) := k14
    replace k20 : WF.cell? ⟨b2, 0, none⟩ = some (.int .i64 (r : Int)) := k20
    replace k21 : WF.cell? ⟨b2, 1, none⟩ = some (.int .i64 (c : Int)) := k21
    replace k22 : WF.cell? ⟨b2, 2, none⟩ = some (.int .i64 (T : Int)) := k22
    replace k23 : WF.cell? ⟨b2, 3, none⟩ = some (.int .i64 (O2 : Int)) := k23
    replace k24 : WF.cell? ⟨b2, 4, none⟩ = some (.slice (some ⟨S, B, none⟩) N cap) := k24
    replace k30 : WF.cell? ⟨b3, 0, none⟩ = some (.int .i64 (r : Int)) := k30
    replace k31 : WF.cell? ⟨b3, 1, none⟩ = some (.int .i64 (c : Int)) := k31
    replace k32 : WF.cell? ⟨b3, 2, none⟩ = some (.int .i64 (T : Int)) := k32
    replace k33 : WF.cell? ⟨b3, 3, none⟩ = some (.int .i64 (O3 : Int)) := k33
    replace k34 : WF.cell? ⟨b3, 4, none⟩ = some (.slice (some ⟨S, B, none⟩) N cap) := k34
    replace k40 : WF.cell? ⟨b4, 0, none⟩ = some (.int .i64 (r : Int)) := k40
    replace k41 : WF.cell? ⟨b4, 1, none⟩ = some (.int .i64 (c : Int)) := k41
    replace k42 : WF.cell? ⟨b4, 2, none⟩ = some (.int .i64 (T : Int)) := k42
    replace k43 : WF.cell? ⟨b4, 3, none⟩ = some (.int .i64 (O4 : Int)) := k43
    replace k44 : WF.cell? ⟨b4, 4, none⟩ = some (.slice (some ⟨S, B, none⟩) N cap) := k44
    exact bodyPost_ret (results_cell4 (Try.results99) rfl rfl rfl rfl (load5 k10 k11 k12 k13 k14) (load5 k20 k21 k22 k23 k24) (load5 k30 k31 k32 k33 k34) (load5 k40 k41 k42 k43 k44)) rfl ⟨rfl, HBF.out⟩
theorem wi_quarters (h : p.ok L) {r c : Nat} (hr : r = p.R / 2) (hc : c = p.C / 2) (hr0 : 0 < r) (hc0 : 0 < c) {w : World} :
    Calls Try.prog 99 #[p.val] w fun e W' => e = .returned (.tuple #[(p.blk 0 0 r c).val, (p.blk 0 c r c).val, (p.blk r 0 r c).val, (p.blk r c r c).val]) ∧ Below w.heap.size w W' := by
  have h1 := h.r
  have h2 := h.c
  exact wi_quarters0 (by omega) (by omega) (by omega) (by omega) (fun O => .agg #[.int .i64 (r : Int), .int .i64 (c : Int), .int .i64 (p.T : Int), .int .i64 (O : Int), .slice (some ⟨p.S, p.B, none⟩) p.N p.cap]) rfl
    (fun W => wi_blk (i := 0) (j := 0) h (by omega) (by omega) (by omega) (by omega)) (fun W => wi_blk (i := 0) (j := c) h (by omega) (by omega) (by omega) (by omega)) (fun W => wi_blk (i := r) (j := 0) h (by omega) (by omega) (by omega) (by omega)) (fun W => wi_blk (i := r) (j := c) h (by omega) (by omega) (by omega) (by omega))
theorem wi_whole {R C : Int} {a : Option Addr} {n cap : Nat} {w : World} :
    Calls Try.prog 56 #[.agg #[.int .i64 R, .int .i64 C, .slice a n cap]] w fun e W' => e = .returned (.agg #[.int .i64 R, .int .i64 C, .int .i64 C, .int .i64 0, .slice a n cap]) ∧ Below w.heap.size w W' := by
  obtain ⟨B0, G1, G2, hw⟩ := vboxm w #[.int .i64 R, .int .i64 C, .slice a n cap] #[.int .i64 0, .int .i64 0, .int .i64 0, .int .i64 0, .slice none 0 0] 24 82 _ rfl
  have HWH := Lib.hid (fun w => view_whole (R := R) (C := C) (a := a) (m := n) (cap := cap) (w := w))
  have c0 := G1.cell (i := 0) rfl
  have c1 := G1.cell (i := 1) rfl
  have c2 := G1.cell (i := 2) rfl
  clear hw
  go_enter Try.func56, Try.ntmps56
  go_upto_region 1 with (fail)
  generalize (w.alloc (.cells #[.int .i64 R, .int .i64 C, .slice a n cap] 24)).alloc (.cells #[.int .i64 0, .int .i64 0, .int .i64 0, .int .i64 0, .slice none 0 0] 82) = W1 at *
  have HG1 := Lib.hid G1
  have HG2 := Lib.hid G2
  have HB0 := Lib.hid B0
  have HK : Hid (∀ W, Below W1.heap.size W1 W → W.cell? ⟨w.heap.size, 0, none⟩ = some (.int .i64 R) ∧ W.cell? ⟨w.heap.size, 1, none⟩ = some (.int .i64 C) ∧ W.cell? ⟨w.heap.size, 2, none⟩ = some (.slice a n cap)) := Lib.hid (fun W h =>
    ⟨(HG1.out.behind h).cell (i := 0) rfl, (HG1.out.behind h).cell (i := 1) rfl, (HG1.out.behind h).cell (i := 2) rfl⟩)
  have HP : ∀ (W : World) (g : Nat) (x0 x1 x2 x3 x4 : Value), w.heap.size ≠ g → (W.cell? ⟨w.heap.size, 0, none⟩ = some (.int .i64 R) ∧ W.cell? ⟨w.heap.size, 1, none⟩ = some (.int .i64 C) ∧ W.cell? ⟨w.heap.size, 2, none⟩ = some (.slice a n cap)) → (fun W : World => W.cell? ⟨w.heap.size, 0, none⟩ = some (.int .i64 R) ∧ W.cell? ⟨w.heap.size, 1, none⟩ = some (.int .i64 C) ∧ W.cell? ⟨w.heap.size, 2, none⟩ = some (.slice a n cap)) (put5 W g x0 x1 x2 x3 x4) := fun W g x0 x1 x2 x3 x4 hn ⟨h0, h1, h2⟩ => by
    have hh : (put5 W g x0 x1 x2 x3 x4).heap[w.heap.size]? = W.heap[w.heap.size]? := heap_put5 hn
    have hc : ∀ i, (put5 W g x0 x1 x2 x3 x4).cell? ⟨w.heap.size, i, none⟩ = W.cell? ⟨w.heap.size, i, none⟩ := fun i => by simp only [World.cell?]; rw [hh]
    exact ⟨(hc 0).trans h0, (hc 1).trans h1, (hc 2).trans h2⟩
  have n1 : w.heap.size ≠ w.heap.size + 1 := by omega
  have Br : Below W1.heap.size W1 W1 := Below.refl _ _
  clear G1 G2 B0 c0 c1 c2
  go_region_held3 (fun W => W.cell? ⟨w.heap.size, 0, none⟩ = some (.int .i64 R) ∧ W.cell? ⟨w.heap.size, 1, none⟩ = some (.int .i64 C) ∧ W.cell? ⟨w.heap.size, 2, none⟩ = some (.slice a n cap))
    (first | with_reducible exact HK.out _ Br | with_reducible exact HK.out _ Br.drew | exact HP _ _ _ _ _ _ _ n1 (HK.out _ Br))
    (first
      | (go_at_call 83; (with_reducible refine (HWH.out _).mono ?_); rintro e v4 ⟨rfl, bz⟩; replace Br : Below W1.heap.size W1 v4 := (by first | with_reducible exact below_both Br bz | with_reducible exact below_both Br.drew bz); clear bz; have a0 := (HG2.out.behind Br).cell (i := 0) rfl; have a1 := (HG2.out.behind Br).cell (i := 1) rfl; have a2 := (HG2.out.behind Br).cell (i := 2) rfl; have a3 := (HG2.out.behind Br).cell (i := 3) rfl; have a4 := (HG2.out.behind Br).cell (i := 4) rfl; have f0 := (HG2.out.behind Br).f 0; have f1 := (HG2.out.behind Br).f 1; have f2 := (HG2.out.behind Br).f 2; have f3 := (HG2.out.behind Br).f 3; have f4 := (HG2.out.behind Br).f 4)
      | (fail))
  all_goals
    have HBF := Lib.hid (below_put5 (below_both HB0.out Br) (show w.heap.size ≤ w.heap.size + 1 by omega) (.int .i64 R) (.int .i64 C) (.int .i64 C) (.int .i64 0) (.slice a n cap))
    go_wp2
    exact bodyPost_ret (v := .agg #[.int .i64 R, .int .i64 C, .int .i64 C, .int .i64 0, .slice a n cap]) (by simp [results, Try.results56, go_sem, a0, a1, a2, a3, a4]) rfl ⟨rfl, HBF.out⟩
end
end Go.Proofs.Ytjapilpjahhimaa

/- winograd: pairwise. -/
namespace Go.Proofs.Ytjapilpjahhimaa
open Go.RowKit Go.Shelf
theorem results_none {fn : Func} (h : fn.results = #[]) (tmps : Array Value) (P : Program) (w : World) : (results fn tmps).run P w = .ok (.tuple #[]) w := by
  simp [results, h]
set_option maxRecDepth 100000 in
set_option maxHeartbeats 16000000 in
theorem wi_pair0 {k R C S1 B1 N1 cap1 O1 T1 S2 B2 N2 cap2 O2 T2 S3 B3 N3 cap3 O3 T3 b g s n u h : Nat} {L : Nat → Nat → Prop} {X : Nat → Prop} {m : Nat → Nat → Nat} {w : World} (F : Nat → Nat → Nat)
    (hF : ∀ (a b : Nat) (W : World), (a : Int) ≤ 18446744073709551615 → (b : Int) ≤ 18446744073709551615 → Calls Try.prog k #[.int .u64 (a : Int), .int .u64 (b : Int), .int .i64 0] W fun e W' => ∃ f : Nat, e = .returned (.tuple #[.int .u64 (F a b : Int), .int .i64 (f : Int)]) ∧ Below W.heap.size W W') (hFl : ∀ a b, a ≤ 18446744073709551615 → b ≤ 18446744073709551615 → F a b ≤ 18446744073709551615) (he : Enters k)
    (hs : St L X b g s n u h m w) (h1 : (Prt.mk S1 B1 N1 cap1 O1 R C T1).ok L) (h2 : (Prt.mk S2 B2 N2 cap2 O2 R C T2).ok L) (h3 : (Prt.mk S3 B3 N3 cap3 O3 R C T3).ok L) (hR : 0 < R) (hC : 0 < C) (hX : X S1) (d2 : (Prt.mk S2 B2 N2 cap2 O2 R C T2) = (Prt.mk S1 B1 N1 cap1 O1 R C T1) ∨ Dis (Prt.mk S2 B2 N2 cap2 O2 R C T2) (Prt.mk S1 B1 N1 cap1 O1 R C T1)) (d3 : (Prt.mk S3 B3 N3 cap3 O3 R C T3) = (Prt.mk S1 B1 N1 cap1 O1 R C T1) ∨ Dis (Prt.mk S3 B3 N3 cap3 O3 R C T3) (Prt.mk S1 B1 N1 cap1 O1 R C T1)) :
    Calls Try.prog 112 #[.agg #[.int .i64 (R : Int), .int .i64 (C : Int), .int .i64 (T1 : Int), .int .i64 (O1 : Int), .slice (some ⟨S1, B1, none⟩) N1 cap1], .agg #[.int .i64 (R : Int), .int .i64 (C : Int), .int .i64 (T2 : Int), .int .i64 (O2 : Int), .slice (some ⟨S2, B2, none⟩) N2 cap2], .agg #[.int .i64 (R : Int), .int .i64 (C : Int), .int .i64 (T3 : Int), .int .i64 (O3 : Int), .slice (some ⟨S3, B3, none⟩) N3 cap3], .func (.func k) #[] #[]] w fun e W' => e = .returned (.tuple #[]) ∧ ∃ m', St L X b g s n u h m' W' ∧ Only (Prt.mk S1 B1 N1 cap1 O1 R C T1) m m' ∧ (∀ i j, i < R → j < C → (Prt.mk S1 B1 N1 cap1 O1 R C T1).get m' i j = F ((Prt.mk S2 B2 N2 cap2 O2 R C T2).get m i j) ((Prt.mk S3 B3 N3 cap3 O3 R C T3).get m i j)) ∧ Kq X g w W' := by
  obtain ⟨f, hf⟩ : ∃ f : Nat → Nat → Nat, f = fun i j => F ((Prt.mk S2 B2 N2 cap2 O2 R C T2).get m i j) ((Prt.mk S3 B3 N3 cap3 O3 R C T3).get m i j) := ⟨_, rfl⟩
  obtain ⟨old, hold⟩ : ∃ f : Nat → Nat → Nat, f = fun i j => (Prt.mk S1 B1 N1 cap1 O1 R C T1).get m i j := ⟨_, rfl⟩
  have hgx : ∀ S, X S → S < w.heap.size := fun S hS => (hs.me.wb S hS).lt
  have hgg : g < w.heap.size := by obtain ⟨ws, A⟩ := hs.an; exact A.box.lt
  -- what a step reads and writes
  have HSTEP : Hid (∀ (i j : Nat) (m' : Nat → Nat → Nat), i < R → j < C → Only (Prt.mk S1 B1 N1 cap1 O1 R C T1) m m' → (∀ i' j', i' < R → j' < C → (Prt.mk S1 B1 N1 cap1 O1 R C T1).get m' i' j' = if i' < i ∨ (i' = i ∧ j' < j) then f i' j' else old i' j') →
      ∃ x y : Nat, m' S2 ((Prt.mk S2 B2 N2 cap2 O2 R C T2).at i j) = x ∧ m' S3 ((Prt.mk S3 B3 N3 cap3 O3 R C T3).at i j) = y ∧ f i j = F x y ∧ (x : Int) ≤ 18446744073709551615 ∧ (y : Int) ≤ 18446744073709551615 ∧ Only (Prt.mk S1 B1 N1 cap1 O1 R C T1) m (upM m' S1 ((Prt.mk S1 B1 N1 cap1 O1 R C T1).at i j) (f i j)) ∧
        (∀ i' j', i' < R → j' < C → (Prt.mk S1 B1 N1 cap1 O1 R C T1).get (upM m' S1 ((Prt.mk S1 B1 N1 cap1 O1 R C T1).at i j) (f i j)) i' j' = if i' < i ∨ (i' = i ∧ j' < j + 1) then f i' j' else old i' j')) := Lib.hid (fun i j m' hi hj ho hv => by
    have hx : m' S2 ((Prt.mk S2 B2 N2 cap2 O2 R C T2).at i j) = (Prt.mk S2 B2 N2 cap2 O2 R C T2).get m i j := by
      rcases d2 with d | d
      · have := hv i j hi hj
        rw [if_neg (by omega), hold] at this
        dsimp only at this
        rw [← d] at this
        exact this
      · exact ho.get d hi hj
    have hy : m' S3 ((Prt.mk S3 B3 N3 cap3 O3 R C T3).at i j) = (Prt.mk S3 B3 N3 cap3 O3 R C T3).get m i j := by
      rcases d3 with d | d
      · have := hv i j hi hj
        rw [if_neg (by omega), hold] at this
        dsimp only at this
        rw [← d] at this
        exact this
      · exact ho.get d hi hj
    have l1 := hs.me.lw S2 ((Prt.mk S2 B2 N2 cap2 O2 R C T2).at i j)
    have l2 := hs.me.lw S3 ((Prt.mk S3 B3 N3 cap3 O3 R C T3).at i j)
    refine ⟨(Prt.mk S2 B2 N2 cap2 O2 R C T2).get m i j, (Prt.mk S3 B3 N3 cap3 O3 R C T3).get m i j, hx, hy, by rw [hf], by unfold Prt.get; dsimp only; omega, by unfold Prt.get; dsimp only; omega, ho.trans (upM_only (c := (Prt.mk S1 B1 N1 cap1 O1 R C T1)) hi hj), fun i' j' hi' hj' => ?_⟩
    by_cases e : i' = i ∧ j' = j
    · obtain ⟨rfl, rfl⟩ := e
      rw [if_pos (by omega)]
      exact upM_at _ _ _ _
    · have hne : ¬ (S1 = S1 ∧ (Prt.mk S1 B1 N1 cap1 O1 R C T1).at i' j' = (Prt.mk S1 B1 N1 cap1 O1 R C T1).at i j) := fun k => e (Prt.at_inj h1 hj' hj k.2)
      have h9 := hv i' j' hi' hj'
      show upM m' S1 _ _ S1 ((Prt.mk S1 B1 N1 cap1 O1 R C T1).at i' j') = _
      rw [upM_else hne]
      have h10 : m' S1 ((Prt.mk S1 B1 N1 cap1 O1 R C T1).at i' j') = (Prt.mk S1 B1 N1 cap1 O1 R C T1).get m' i' j' := rfl
      rw [h10, h9]
      by_cases c : i' < i ∨ (i' = i ∧ j' < j)
      · rw [if_pos c, if_pos (by omega)]
      · rw [if_neg c, if_neg (by omega)])
  have HFLT : Hid (∀ i j, f i j < 18446744073709551616) := Lib.hid (fun i j => by
    have l1 := hs.me.lw S2 ((Prt.mk S2 B2 N2 cap2 O2 R C T2).at i j)
    have l2 := hs.me.lw S3 ((Prt.mk S3 B3 N3 cap3 O3 R C T3).at i j)
    have := hFl ((Prt.mk S2 B2 N2 cap2 O2 R C T2).get m i j) ((Prt.mk S3 B3 N3 cap3 O3 R C T3).get m i j) (by unfold Prt.get; dsimp only; omega) (by unfold Prt.get; dsimp only; omega)
    rw [hf]; dsimp only; omega)
  have HOPS := Lib.hid hF
  have HR1 := Lib.hid (fun (i : Nat) (hi : i < R) (W : World) => wi_row h1 hi hC (w := W))
  have HR2 := Lib.hid (fun (i : Nat) (hi : i < R) (W : World) => wi_row h2 hi hC (w := W))
  have HR3 := Lib.hid (fun (i : Nat) (hi : i < R) (W : World) => wi_row h3 hi hC (w := W))
  have HL1 := Lib.hid h1.lv
  have HL2 := Lib.hid h2.lv
  have HL3 := Lib.hid h3.lv
  have HAT1 : Hid (∀ i j, (Prt.mk S1 B1 N1 cap1 O1 R C T1).at i 0 + j = (Prt.mk S1 B1 N1 cap1 O1 R C T1).at i j) := Lib.hid (fun i j => by unfold Prt.at; dsimp only; omega)
  have HAT2 : Hid (∀ i j, (Prt.mk S2 B2 N2 cap2 O2 R C T2).at i 0 + j = (Prt.mk S2 B2 N2 cap2 O2 R C T2).at i j) := Lib.hid (fun i j => by unfold Prt.at; dsimp only; omega)
  have HAT3 : Hid (∀ i j, (Prt.mk S3 B3 N3 cap3 O3 R C T3).at i 0 + j = (Prt.mk S3 B3 N3 cap3 O3 R C T3).at i j) := Lib.hid (fun i j => by unfold Prt.at; dsimp only; omega)
  have hgoal : (∀ m' W', (St L X b g s n u h m' W' ∧ Only (Prt.mk S1 B1 N1 cap1 O1 R C T1) m m' ∧ (∀ i j, i < R → j < C → (Prt.mk S1 B1 N1 cap1 O1 R C T1).get m' i j = f i j) ∧ Kq X g w W') → St L X b g s n u h m' W' ∧ Only (Prt.mk S1 B1 N1 cap1 O1 R C T1) m m' ∧ (∀ i j, i < R → j < C → (Prt.mk S1 B1 N1 cap1 O1 R C T1).get m' i j = F ((Prt.mk S2 B2 N2 cap2 O2 R C T2).get m i j) ((Prt.mk S3 B3 N3 cap3 O3 R C T3).get m i j)) ∧ Kq X g w W') := fun m' W' ⟨a1, a2, a3, a4⟩ => ⟨a1, a2, fun i j hi hj => by rw [a3 i j hi hj, hf], a4⟩
  have HGOAL := Lib.hid hgoal
  have HXS : Hid ((∀ S, X S → S < w.heap.size) ∧ g < w.heap.size ∧ X S1) := Lib.hid ⟨hgx, hgg, hX⟩
  have HS0 := Lib.hid hs
  have HV0 : Hid (∀ i' j', i' < R → j' < C → (Prt.mk S1 B1 N1 cap1 O1 R C T1).get m i' j' = if i' < 0 then f i' j' else old i' j') := Lib.hid (fun i' j' _ _ => by rw [if_neg (by omega), hold])
  have hR64 : (R : Int) ≤ 64 := by have : R ≤ 64 := h1.r; omega
  have hC64 : (C : Int) ≤ 64 := by have : C ≤ 64 := h1.c; omega
  obtain ⟨B0, G1, G2, hw1⟩ := vboxm w #[.int .i64 (R : Int), .int .i64 (C : Int), .int .i64 (T1 : Int), .int .i64 (O1 : Int), .slice (some ⟨S1, B1, none⟩) N1 cap1] #[.int .i64 (R : Int), .int .i64 (C : Int), .int .i64 (T2 : Int), .int .i64 (O2 : Int), .slice (some ⟨S2, B2, none⟩) N2 cap2] 82 82 _ rfl
  obtain ⟨j3, G3⟩ := mbox ((w.alloc (.cells #[.int .i64 (R : Int), .int .i64 (C : Int), .int .i64 (T1 : Int), .int .i64 (O1 : Int), .slice (some ⟨S1, B1, none⟩) N1 cap1] 82)).alloc (.cells #[.int .i64 (R : Int), .int .i64 (C : Int), .int .i64 (T2 : Int), .int .i64 (O2 : Int), .slice (some ⟨S2, B2, none⟩) N2 cap2] 82)) #[.int .i64 (R : Int), .int .i64 (C : Int), .int .i64 (T3 : Int), .int .i64 (O3 : Int), .slice (some ⟨S3, B3, none⟩) N3 cap3] 82 _ rfl
  replace G1 := G1.behind j3
  replace G2 := G2.behind j3
  replace B0 := below_both B0 j3
  simp only [World.size_alloc] at G3
  have c0 := G1.cell (i := 0) rfl
  have HEN := Lib.hid he
  clear he hF hFl hs h1 h2 h3 hR hC hX d2 d3 hf hold hgx hgg hgoal hw1 j3
  go_enter Try.func112, Try.ntmps112
  go_wp2
  generalize ((w.alloc (.cells #[.int .i64 (R : Int), .int .i64 (C : Int), .int .i64 (T1 : Int), .int .i64 (O1 : Int), .slice (some ⟨S1, B1, none⟩) N1 cap1] 82)).alloc (.cells #[.int .i64 (R : Int), .int .i64 (C : Int), .int .i64 (T2 : Int), .int .i64 (O2 : Int), .slice (some ⟨S2, B2, none⟩) N2 cap2] 82)).alloc (.cells #[.int .i64 (R : Int), .int .i64 (C : Int), .int .i64 (T3 : Int), .int .i64 (O3 : Int), .slice (some ⟨S3, B3, none⟩) N3 cap3] 82) = W0 at *
  have HG := Lib.hid (And.intro G1 (And.intro G2 G3))
  have HB0 := Lib.hid B0
  clear G1 G2 G3 B0 c0
  go_loopw [16] (fun q wr => ∃ (i : Nat) (m' : Nat → Nat → Nat), i ≤ R ∧ q = .int .i64 i ∧ St L X b g s n u h m' wr ∧ Only (Prt.mk S1 B1 N1 cap1 O1 R C T1) m m' ∧ Hid (∀ i' j', i' < R → j' < C → (Prt.mk S1 B1 N1 cap1 O1 R C T1).get m' i' j' = if i' < i then f i' j' else old i' j') ∧ Kq X g W0 wr) (fun q _ => R - (intOf q).toNat)
  case atStart => exact ⟨0, m, Nat.zero_le _, rfl, HS0.out.behind HB0.out, Only.refl _ _, HV0, Kq.refl _ _ _⟩
  case round =>
    obtain ⟨i, m', hi, rfl, hst, hon, HV, hkq⟩ := hrel
    by_cases hlt : i < R
    · have q1 : decide ((i : Int) < (R : Int)) = true := decide_eq_true (by omega)
      have K1 := hkq.ms HG.out.1 (fun h => by have := HXS.out.1 _ h; omega) (by have := HXS.out.2.1; omega)
      have K2 := hkq.ms HG.out.2.1 (fun h => by have := HXS.out.1 _ h; omega) (by have := HXS.out.2.1; omega)
      have K3 := hkq.ms HG.out.2.2 (fun h => by have := HXS.out.1 _ h; omega) (by have := HXS.out.2.1; omega)
      obtain ⟨w5, rfl⟩ : ∃ wo, wo = wr := ⟨_, rfl⟩
      obtain ⟨P1, hP1⟩ : ∃ P, P = (Prt.mk S1 B1 N1 cap1 O1 R C T1).at i 0 := ⟨_, rfl⟩
      obtain ⟨P2, hP2⟩ : ∃ P, P = (Prt.mk S2 B2 N2 cap2 O2 R C T2).at i 0 := ⟨_, rfl⟩
      obtain ⟨P3, hP3⟩ : ∃ P, P = (Prt.mk S3 B3 N3 cap3 O3 R C T3).at i 0 := ⟨_, rfl⟩
      have HW1 := Lib.hid (HR1.out i hlt)
      have HW2 := Lib.hid (HR2.out i hlt)
      have HW3 := Lib.hid (HR3.out i hlt)
      dsimp only [Prt.val] at HW1 HW2 HW3
      rw [← hP1] at HW1
      rw [← hP2] at HW2
      rw [← hP3] at HW3
      generalize cap1 - (O1 + i * T1) = cq1 at *
      generalize cap2 - (O2 + i * T2) = cq2 at *
      generalize cap3 - (O3 + i * T3) = cq3 at *
      have HPP : Hid (P1 = (Prt.mk S1 B1 N1 cap1 O1 R C T1).at i 0 ∧ P2 = (Prt.mk S2 B2 N2 cap2 O2 R C T2).at i 0 ∧ P3 = (Prt.mk S3 B3 N3 cap3 O3 R C T3).at i 0) := Lib.hid ⟨hP1, hP2, hP3⟩
      have HILT := Lib.hid hlt
      have HST := Lib.hid hst
      have HON := Lib.hid hon
      have HKQ := Lib.hid hkq
      have HKK := Lib.hid (And.intro K1 (And.intro K2 K3))
      have HK : Hid (∀ W, Below w5.heap.size w5 W → W.cell? ⟨w.heap.size, 0, none⟩ = some (.int .i64 (R : Int)) ∧ W.cell? ⟨w.heap.size, 1, none⟩ = some (.int .i64 (C : Int)) ∧ W.cell? ⟨w.heap.size, 2, none⟩ = some (.int .i64 (T1 : Int)) ∧ W.cell? ⟨w.heap.size, 3, none⟩ = some (.int .i64 (O1 : Int)) ∧ W.cell? ⟨w.heap.size, 4, none⟩ = some (.slice (some ⟨S1, B1, none⟩) N1 cap1) ∧ W.cell? ⟨(w.heap.size + 1), 0, none⟩ = some (.int .i64 (R : Int)) ∧ W.cell? ⟨(w.heap.size + 1), 1, none⟩ = some (.int .i64 (C : Int)) ∧ W.cell? ⟨(w.heap.size + 1), 2, none⟩ = some (.int .i64 (T2 : Int)) ∧ W.cell? ⟨(w.heap.size + 1), 3, none⟩ = some (.int .i64 (O2 : Int)) ∧ W.cell? ⟨(w.heap.size + 1), 4, none⟩ = some (.slice (some ⟨S2, B2, none⟩) N2 cap2) ∧ W.cell? ⟨(w.heap.size + 1 + 1), 0, none⟩ = some (.int .i64 (R : Int)) ∧ W.cell? ⟨(w.heap.size + 1 + 1), 1, none⟩ = some (.int .i64 (C : Int)) ∧ W.cell? ⟨(w.heap.size + 1 + 1), 2, none⟩ = some (.int .i64 (T3 : Int)) ∧ W.cell? ⟨(w.heap.size + 1 + 1), 3, none⟩ = some (.int .i64 (O3 : Int)) ∧ W.cell? ⟨(w.heap.size + 1 + 1), 4, none⟩ = some (.slice (some ⟨S3, B3, none⟩) N3 cap3)) := Lib.hid (fun W h =>
        ⟨(HKK.out.1.behind h).cell (i := 0) rfl, (HKK.out.1.behind h).cell (i := 1) rfl, (HKK.out.1.behind h).cell (i := 2) rfl, (HKK.out.1.behind h).cell (i := 3) rfl, (HKK.out.1.behind h).cell (i := 4) rfl, (HKK.out.2.1.behind h).cell (i := 0) rfl, (HKK.out.2.1.behind h).cell (i := 1) rfl, (HKK.out.2.1.behind h).cell (i := 2) rfl, (HKK.out.2.1.behind h).cell (i := 3) rfl, (HKK.out.2.1.behind h).cell (i := 4) rfl, (HKK.out.2.2.behind h).cell (i := 0) rfl, (HKK.out.2.2.behind h).cell (i := 1) rfl, (HKK.out.2.2.behind h).cell (i := 2) rfl, (HKK.out.2.2.behind h).cell (i := 3) rfl, (HKK.out.2.2.behind h).cell (i := 4) rfl⟩)
      have Br : Below w5.heap.size w5 w5 := Below.refl _ _
      clear hP1 hP2 hP3 hst hon hkq K1 K2 K3
      go_upto_region 4 with (fail)
      go_cut [9, 10, 11] from 17 to 27 (fun x y z wz => x = .slice (some ⟨S1, P1, none⟩) C cq1 ∧ y = .slice (some ⟨S2, P2, none⟩) C cq2 ∧ z = .slice (some ⟨S3, P3, none⟩) C cq3 ∧ Below w5.heap.size w5 wz)
      case first =>
       as_aux_lemma =>
        go_region_held3 (fun W => W.cell? ⟨w.heap.size, 0, none⟩ = some (.int .i64 (R : Int)) ∧ W.cell? ⟨w.heap.size, 1, none⟩ = some (.int .i64 (C : Int)) ∧ W.cell? ⟨w.heap.size, 2, none⟩ = some (.int .i64 (T1 : Int)) ∧ W.cell? ⟨w.heap.size, 3, none⟩ = some (.int .i64 (O1 : Int)) ∧ W.cell? ⟨w.heap.size, 4, none⟩ = some (.slice (some ⟨S1, B1, none⟩) N1 cap1) ∧ W.cell? ⟨(w.heap.size + 1), 0, none⟩ = some (.int .i64 (R : Int)) ∧ W.cell? ⟨(w.heap.size + 1), 1, none⟩ = some (.int .i64 (C : Int)) ∧ W.cell? ⟨(w.heap.size + 1), 2, none⟩ = some (.int .i64 (T2 : Int)) ∧ W.cell? ⟨(w.heap.size + 1), 3, none⟩ = some (.int .i64 (O2 : Int)) ∧ W.cell? ⟨(w.heap.size + 1), 4, none⟩ = some (.slice (some ⟨S2, B2, none⟩) N2 cap2) ∧ W.cell? ⟨(w.heap.size + 1 + 1), 0, none⟩ = some (.int .i64 (R : Int)) ∧ W.cell? ⟨(w.heap.size + 1 + 1), 1, none⟩ = some (.int .i64 (C : Int)) ∧ W.cell? ⟨(w.heap.size + 1 + 1), 2, none⟩ = some (.int .i64 (T3 : Int)) ∧ W.cell? ⟨(w.heap.size + 1 + 1), 3, none⟩ = some (.int .i64 (O3 : Int)) ∧ W.cell? ⟨(w.heap.size + 1 + 1), 4, none⟩ = some (.slice (some ⟨S3, B3, none⟩) N3 cap3))
          (first | with_reducible exact HK.out _ Br | with_reducible exact HK.out _ Br.drew)
          (first
            | (go_at_call 82; (first | (with_reducible refine (HW1.out _).mono ?_) | (with_reducible refine (HW2.out _).mono ?_) | (with_reducible refine (HW3.out _).mono ?_)); rintro e v4 ⟨rfl, bz⟩; replace Br : Below w5.heap.size w5 v4 := (by first | with_reducible exact below_both Br bz | with_reducible exact below_both Br.drew bz); clear bz)
            | (fail))
        all_goals
          go_wp2_with fail
          go_meet
          exact ⟨rfl, rfl, rfl, Br⟩
      obtain ⟨rfl, rfl, rfl, bR⟩ := hcut
      obtain ⟨w6, rfl⟩ : ∃ wo, wo = wc := ⟨_, rfl⟩
      have HST6 := Lib.hid (HST.out.behind bR)
      have HKQ6 := Lib.hid (HKQ.out.below bR)
      clear HK HW1 HW2 HW3 Br bR HKK
      go_wp2
      go_loopw [30] (fun q wr => ∃ (j : Nat) (m' : Nat → Nat → Nat), j ≤ C ∧ q = .int .i64 j ∧ St L X b g s n u h m' wr ∧ Only (Prt.mk S1 B1 N1 cap1 O1 R C T1) m m' ∧ Hid (∀ i' j', i' < R → j' < C → (Prt.mk S1 B1 N1 cap1 O1 R C T1).get m' i' j' = if i' < i ∨ (i' = i ∧ j' < j) then f i' j' else old i' j') ∧ Kq X g W0 wr) (fun q _ => C - (intOf q).toNat)
      case atStart => exact ⟨0, m', Nat.zero_le _, rfl, HST6.out, HON.out, Lib.hid (fun i' j' hi' hj' => by
        rw [HV.out i' j' hi' hj']
        by_cases c : i' < i
        · rw [if_pos c, if_pos (.inl c)]
        · rw [if_neg c, if_neg (by omega)]), HKQ6.out⟩
      case round =>
        obtain ⟨j, m'', hj, rfl, hst, hon, HV2, hkq⟩ := hrel
        by_cases hlt2 : j < C
        · have q2 : decide ((j : Int) < (C : Int)) = true := decide_eq_true (by omega)
          obtain ⟨x, y, e1, e2, e3, l1, l2, hon2, hv2⟩ := HSTEP.out i j m'' HILT.out hlt2 hon HV2.out
          have kx := hst.cell (HL2.out i j HILT.out hlt2)
          have ky := hst.cell (HL3.out i j HILT.out hlt2)
          have e4 : (Prt.mk S2 B2 N2 cap2 O2 R C T2).at i j = P2 + j := by rw [HPP.out.2.1, HAT2.out]
          have e5 : (Prt.mk S3 B3 N3 cap3 O3 R C T3).at i j = P3 + j := by rw [HPP.out.2.2, HAT3.out]
          have e6 : (Prt.mk S1 B1 N1 cap1 O1 R C T1).at i j = P1 + j := by rw [HPP.out.1, HAT1.out]
          rw [e1, e4] at kx
          rw [e2, e5] at ky
          have HOP := Lib.hid (fun W => HOPS.out x y W l1 l2)
          have hen := fun W => HEN.out #[.int .u64 (x : Int), .int .u64 (y : Int), .int .i64 0] W
          obtain ⟨z, hz⟩ : ∃ z, z = F x y := ⟨_, rfl⟩
          rw [← hz] at HOP e3
          rw [e3] at hon2 hv2
          have HLV : Hid (L S1 ((Prt.mk S1 B1 N1 cap1 O1 R C T1).at i j) ∧ X S1) := Lib.hid ⟨HL1.out i j HILT.out hlt2, HXS.out.2.2⟩
          have HFL : Hid (z < 18446744073709551616) := Lib.hid (by rw [← e3]; exact HFLT.out i j)
          have HAT : Hid ((Prt.mk S1 B1 N1 cap1 O1 R C T1).at i j = P1 + j) := Lib.hid e6
          rw [e6] at hon2 hv2
          have HST := Lib.hid hst
          have HON2 := Lib.hid hon2
          have HVV := Lib.hid hv2
          have HKQ := Lib.hid hkq
          have Br : Below wr.heap.size wr wr := Below.refl _ _
          clear e1 e2 e3 e4 e5 e6 hz hon2 hv2 hst hon hkq
          go_upto_region 8 with (fail)
          refine wp_region_held_drew (S := fun _ => True) (by kernel_rfl) ?_ (fun hHeld => ?_)
          · (try dsimp only); (try trivial)
          refine wpAnyH_take (i := 0) (oi := { dst := some 34, op := _, type := _, pos := _, after := _, guard := _ }) (v := ?v0) rfl (by kernel_rfl) (by kernel_rfl) (by kernel_rfl) (fun _ _ _ h => h) (Or.inl ⟨by rfl, ?hy0⟩) (by assumption) ?rest0
          case hy0 => intro w hSw; (try dsimp only at hSw); go_simp; first | done | with_reducible rfl
          simp only [Act.put, List.setIfInBounds_toArray, List.set_cons_zero, List.set_cons_succ]
          refine wpAnyH_take (i := 1) (oi := { dst := some 35, op := _, type := _, pos := _, after := _, guard := _ }) (v := ?v1) rfl (by kernel_rfl) (by kernel_rfl) (by kernel_rfl) (fun _ _ _ h => h) (Or.inl ⟨by rfl, ?hy1⟩) (by assumption) ?rest1
          case hy1 => intro w hSw; (try dsimp only at hSw); go_simp; first | done | with_reducible rfl
          simp only [Act.put, List.setIfInBounds_toArray, List.set_cons_zero, List.set_cons_succ]
          refine wpAnyH_take (i := 2) (oi := { dst := some 36, op := _, type := _, pos := _, after := _, guard := _ }) (v := ?v2) rfl (by kernel_rfl) (by kernel_rfl) (by kernel_rfl) (fun _ _ _ h => h) (Or.inl ⟨by rfl, ?hy2⟩) (by assumption) ?rest2
          case hy2 => intro w hSw; (try dsimp only at hSw); go_simp; first | done | with_reducible rfl
          simp only [Act.put, List.setIfInBounds_toArray, List.set_cons_zero, List.set_cons_succ]
          refine wpAnyH_take (i := 3) (oi := { dst := some 37, op := _, type := _, pos := _, after := _, guard := _ }) (v := ?v3) rfl (by kernel_rfl) (by kernel_rfl) (by kernel_rfl) (fun _ _ _ h => h) (Or.inl ⟨by rfl, ?hy3⟩) (by assumption) ?rest3
          case hy3 => intro w hSw; (try dsimp only at hSw); go_simp; first | done | with_reducible rfl
          simp only [Act.put, List.setIfInBounds_toArray, List.set_cons_zero, List.set_cons_succ]
          refine wpAnyH_take (i := 4) (oi := { dst := some 38, op := _, type := _, pos := _, after := _, guard := _ }) (v := ?v4) rfl (by kernel_rfl) (by kernel_rfl) (by kernel_rfl) (fun _ _ _ h => h) (Or.inl ⟨by rfl, ?hy4⟩) (by assumption) ?rest4
          case hy4 => intro w hSw; (try dsimp only at hSw); go_simp; first | done | with_reducible rfl
          simp only [Act.put, List.setIfInBounds_toArray, List.set_cons_zero, List.set_cons_succ]
          refine wpAnyH_take (i := 5) (oi := { dst := some 39, op := _, type := _, pos := _, after := _, guard := _ }) (v := ?v5) rfl (by kernel_rfl) (by kernel_rfl) (by kernel_rfl) (fun _ _ _ h => h) (Or.inl ⟨by rfl, ?hy5⟩) (by assumption) ?rest5
          case hy5 => intro w hSw; (try dsimp only at hSw); go_simp; first | done | with_reducible rfl
          simp only [Act.put, List.setIfInBounds_toArray, List.set_cons_zero, List.set_cons_succ]
          refine wpAnyH_take (i := 7) (oi := { dst := some 41, op := _, type := _, pos := _, after := _, guard := _ }) (v := ?v7) rfl (by kernel_rfl) (by kernel_rfl) (by kernel_rfl) (fun _ _ _ h => h) (Or.inl ⟨by rfl, ?hy7⟩) (by assumption) ?rest7
          case hy7 => intro w hSw; (try dsimp only at hSw); go_simp; first | done | with_reducible rfl
          simp only [Act.put, List.setIfInBounds_toArray, List.set_cons_zero, List.set_cons_succ]
          refine wpAnyH_take (i := 8) (oi := { dst := some 42, op := _, type := _, pos := _, after := _, guard := _ }) (v := ?v8) rfl (by kernel_rfl) (by kernel_rfl) (by kernel_rfl) (fun _ _ _ h => h) (Or.inl ⟨by rfl, ?hy8⟩) (by assumption) ?rest8
          case hy8 => intro w hSw; (try dsimp only at hSw); go_simp; first | done | with_reducible rfl
          simp only [Act.put, List.setIfInBounds_toArray, List.set_cons_zero, List.set_cons_succ]
          refine wpAnyH_take (i := 9) (oi := { dst := some 43, op := _, type := _, pos := _, after := _, guard := _ }) (v := ?v9) rfl (by kernel_rfl) (by kernel_rfl) (by kernel_rfl) (fun _ _ _ h => h) (Or.inl ⟨by rfl, ?hy9⟩) (by assumption) ?rest9
          case hy9 => intro w hSw; (try dsimp only at hSw); go_simp; first | done | with_reducible rfl
          simp only [Act.put, List.setIfInBounds_toArray, List.set_cons_zero, List.set_cons_succ]
          refine wpAnyH_ready (rs := [6, 10]) (by kernel_rfl) (by simp) ?_
          refine AllReadyH.cons rfl (fun K hK => ?_) (AllReadyH.cons rfl (fun K hK => ?_) AllReadyH.nil)
          · go_simp
            refine hK.out _ _ ?_ (fun hHeld => ?_)
            · trivial
            clear hK K
            try simp only [Act.put, List.setIfInBounds_toArray, List.set_cons_zero, List.set_cons_succ]
            refine wpAnyH_ready (rs := [10]) (by kernel_rfl) (by simp) ?_
            refine AllReadyH.cons rfl (fun K hK => ?_) AllReadyH.nil
            go_simp
            refine hK.out _ _ ?_ (fun hHeld => ?_)
            · trivial
            clear hK K
            try simp only [Act.put, List.setIfInBounds_toArray, List.set_cons_zero, List.set_cons_succ]
            refine wpAnyH_ready (rs := [11]) (by kernel_rfl) (by simp) ?_
            refine AllReadyH.cons rfl (fun K hK => ?_) AllReadyH.nil
            go_simp
            refine (HOP.out _).mono ?_
            rintro e v4 ⟨fl, rfl, bz⟩
            replace Br : Below wr.heap.size wr v4 := (by first | exact below_both Br.drew bz | exact below_both Br bz)
            clear bz
            refine hK.out _ _ ?_ (fun hHeld => ?_)
            · trivial
            clear hK K
            try simp only [Act.put, List.setIfInBounds_toArray, List.set_cons_zero, List.set_cons_succ]
            refine wpAnyH_take (i := 12) (oi := { dst := some 33, op := _, type := _, pos := _, after := _, guard := _ }) (v := ?v12) rfl (by kernel_rfl) (by kernel_rfl) (by kernel_rfl) (fun _ _ _ h => h) (Or.inl ⟨by rfl, ?hy12⟩) (by assumption) ?rest12
            case hy12 => intro w hSw; (try dsimp only at hSw); go_simp; first | done | with_reducible rfl
            simp only [Act.put, List.setIfInBounds_toArray, List.set_cons_zero, List.set_cons_succ]
            refine wpAnyH_take (i := 13) (oi := { dst := some 46, op := _, type := _, pos := _, after := _, guard := _ }) (v := ?v13) rfl (by kernel_rfl) (by kernel_rfl) (by kernel_rfl) (fun _ _ _ h => h) (Or.inl ⟨by rfl, ?hy13⟩) (by assumption) ?rest13
            case hy13 => intro w hSw; (try dsimp only at hSw); go_simp; first | done | with_reducible rfl
            simp only [Act.put, List.setIfInBounds_toArray, List.set_cons_zero, List.set_cons_succ]
            refine wpAnyH_take (i := 14) (oi := { dst := some 47, op := _, type := _, pos := _, after := _, guard := _ }) (v := ?v14) rfl (by kernel_rfl) (by kernel_rfl) (by kernel_rfl) (fun _ _ _ h => h) (Or.inl ⟨by rfl, ?hy14⟩) (by assumption) ?rest14
            case hy14 => intro w hSw; (try dsimp only at hSw); go_simp; first | done | with_reducible rfl
            simp only [Act.put, List.setIfInBounds_toArray, List.set_cons_zero, List.set_cons_succ]
            refine wpAnyH_take (i := 15) (oi := { dst := some 48, op := _, type := _, pos := _, after := _, guard := _ }) (v := ?v15) rfl (by kernel_rfl) (by kernel_rfl) (by kernel_rfl) (fun _ _ _ h => h) (Or.inl ⟨by rfl, ?hy15⟩) (by assumption) ?rest15
            case hy15 => intro w hSw; (try dsimp only at hSw); go_simp; first | done | with_reducible rfl
            simp only [Act.put, List.setIfInBounds_toArray, List.set_cons_zero, List.set_cons_succ]
            have st4 := HST.out.behind Br
            have kc4 := st4.cell HLV.out.1
            have kf4 := st4.me.frozen HLV.out.2 (P1 + j)
            rw [HAT.out] at kc4
            refine wpAnyH_ready (rs := [16]) (by kernel_rfl) (by simp) ?_
            refine AllReadyH.cons rfl (fun K hK => ?_) AllReadyH.nil
            go_simp
            refine hK.out _ _ ?_ (fun hHeld => ?_)
            · trivial
            clear hK K
            try simp only [Act.put, List.setIfInBounds_toArray, List.set_cons_zero, List.set_cons_succ]
            refine wpAnyH_done (by kernel_rfl) ?_ _
            have st5 := (HST.out.behind Br).set HLV.out.2 HLV.out.1 HFL.out
            have HS5 := Lib.hid st5
            have HK5 := Lib.hid ((HKQ.out.below Br).trans (Kq.set (X := X) (g := g) (W := v4) HLV.out.2 (P1 + j) (.int .u64 (z : Int))))
            clear st4 st5 kc4 kf4
            go_wp2
            exact ⟨⟨j + 1, _, by omega, by simp, by rw [HAT.out] at HS5; exact HS5.out, HON2.out, Lib.hid HVV.out, HK5.out⟩, by simp [intOf]; omega⟩
          · go_simp
            refine hK.out _ _ ?_ (fun hHeld => ?_)
            · trivial
            clear hK K
            try simp only [Act.put, List.setIfInBounds_toArray, List.set_cons_zero, List.set_cons_succ]
            refine wpAnyH_ready (rs := [6]) (by kernel_rfl) (by simp) ?_
            refine AllReadyH.cons rfl (fun K hK => ?_) AllReadyH.nil
            go_simp
            refine hK.out _ _ ?_ (fun hHeld => ?_)
            · trivial
            clear hK K
            try simp only [Act.put, List.setIfInBounds_toArray, List.set_cons_zero, List.set_cons_succ]
            refine wpAnyH_ready (rs := [11]) (by kernel_rfl) (by simp) ?_
            refine AllReadyH.cons rfl (fun K hK => ?_) AllReadyH.nil
            go_simp
            refine (HOP.out _).mono ?_
            rintro e v4 ⟨fl, rfl, bz⟩
            replace Br : Below wr.heap.size wr v4 := (by first | exact below_both Br.drew bz | exact below_both Br bz)
            clear bz
            refine hK.out _ _ ?_ (fun hHeld => ?_)
            · trivial
            clear hK K
            try simp only [Act.put, List.setIfInBounds_toArray, List.set_cons_zero, List.set_cons_succ]
            refine wpAnyH_take (i := 12) (oi := { dst := some 33, op := _, type := _, pos := _, after := _, guard := _ }) (v := ?v12b) rfl (by kernel_rfl) (by kernel_rfl) (by kernel_rfl) (fun _ _ _ h => h) (Or.inl ⟨by rfl, ?hy12b⟩) (by assumption) ?rest12b
            case hy12b => intro w hSw; (try dsimp only at hSw); go_simp; first | done | with_reducible rfl
            simp only [Act.put, List.setIfInBounds_toArray, List.set_cons_zero, List.set_cons_succ]
            refine wpAnyH_take (i := 13) (oi := { dst := some 46, op := _, type := _, pos := _, after := _, guard := _ }) (v := ?v13b) rfl (by kernel_rfl) (by kernel_rfl) (by kernel_rfl) (fun _ _ _ h => h) (Or.inl ⟨by rfl, ?hy13b⟩) (by assumption) ?rest13b
            case hy13b => intro w hSw; (try dsimp only at hSw); go_simp; first | done | with_reducible rfl
            simp only [Act.put, List.setIfInBounds_toArray, List.set_cons_zero, List.set_cons_succ]
            refine wpAnyH_take (i := 14) (oi := { dst := some 47, op := _, type := _, pos := _, after := _, guard := _ }) (v := ?v14b) rfl (by kernel_rfl) (by kernel_rfl) (by kernel_rfl) (fun _ _ _ h => h) (Or.inl ⟨by rfl, ?hy14b⟩) (by assumption) ?rest14b
            case hy14b => intro w hSw; (try dsimp only at hSw); go_simp; first | done | with_reducible rfl
            simp only [Act.put, List.setIfInBounds_toArray, List.set_cons_zero, List.set_cons_succ]
            refine wpAnyH_take (i := 15) (oi := { dst := some 48, op := _, type := _, pos := _, after := _, guard := _ }) (v := ?v15b) rfl (by kernel_rfl) (by kernel_rfl) (by kernel_rfl) (fun _ _ _ h => h) (Or.inl ⟨by rfl, ?hy15b⟩) (by assumption) ?rest15b
            case hy15b => intro w hSw; (try dsimp only at hSw); go_simp; first | done | with_reducible rfl
            simp only [Act.put, List.setIfInBounds_toArray, List.set_cons_zero, List.set_cons_succ]
            have st4 := HST.out.behind Br
            have kc4 := st4.cell HLV.out.1
            have kf4 := st4.me.frozen HLV.out.2 (P1 + j)
            rw [HAT.out] at kc4
            refine wpAnyH_ready (rs := [16]) (by kernel_rfl) (by simp) ?_
            refine AllReadyH.cons rfl (fun K hK => ?_) AllReadyH.nil
            go_simp
            refine hK.out _ _ ?_ (fun hHeld => ?_)
            · trivial
            clear hK K
            try simp only [Act.put, List.setIfInBounds_toArray, List.set_cons_zero, List.set_cons_succ]
            refine wpAnyH_done (by kernel_rfl) ?_ _
            have st5 := (HST.out.behind Br).set HLV.out.2 HLV.out.1 HFL.out
            have HS5 := Lib.hid st5
            have HK5 := Lib.hid ((HKQ.out.below Br).trans (Kq.set (X := X) (g := g) (W := v4) HLV.out.2 (P1 + j) (.int .u64 (z : Int))))
            clear st4 st5 kc4 kf4
            go_wp2
            exact ⟨⟨j + 1, _, by omega, by simp, by rw [HAT.out] at HS5; exact HS5.out, HON2.out, Lib.hid HVV.out, HK5.out⟩, by simp [intOf]; omega⟩
        · obtain rfl : j = C := by omega
          have q2 : decide ((j : Int) < (j : Int)) = false := decide_eq_false (by omega)
          have HST := Lib.hid hst
          have HON := Lib.hid hon
          have HKQ := Lib.hid hkq
          clear hst hon hkq hlt2
          go_wp2
          exact ⟨⟨i + 1, m'', by have := HILT.out; omega, by simp, HST.out, HON.out, Lib.hid (fun i' j' hi' hj' => by
            rw [HV2.out i' j' hi' hj']
            by_cases c : i' < i + 1
            · rw [if_pos c, if_pos (by omega)]
            · rw [if_neg c, if_neg (by omega)]), HKQ.out⟩, by have := HILT.out; simp [intOf]; omega⟩
    · obtain rfl : i = R := by omega
      have q1 : decide ((i : Int) < (i : Int)) = false := decide_eq_false (by omega)
      have HST := Lib.hid hst
      have HON := Lib.hid hon
      have HKQ := Lib.hid hkq
      clear hst hon hkq hlt
      go_wp2
      exact bodyPost_end (results_none (Try.results112) _ _ _) rfl ⟨rfl, m', HGOAL.out m' wr ⟨HST.out, HON.out, fun i' j' hi' hj' => by rw [HV.out i' j' hi' hj', if_pos hi'], (Kq.of HB0.out).trans HKQ.out⟩⟩
end Go.Proofs.Ytjapilpjahhimaa

/- winograd: add, subtract. -/
namespace Go.Proofs.Ytjapilpjahhimaa
open Go.RowKit Go.Shelf
set_option maxRecDepth 100000 in
set_option maxHeartbeats 16000000 in
theorem wi_add0 {R C S1 B1 N1 cap1 O1 T1 S2 B2 N2 cap2 O2 T2 S3 B3 N3 cap3 O3 T3 b g s n u h : Nat} {L : Nat → Nat → Prop} {X : Nat → Prop} {m : Nat → Nat → Nat} {w : World}
    (hs : St L X b g s n u h m w) (h1 : (Prt.mk S1 B1 N1 cap1 O1 R C T1).ok L) (h2 : (Prt.mk S2 B2 N2 cap2 O2 R C T2).ok L) (h3 : (Prt.mk S3 B3 N3 cap3 O3 R C T3).ok L) (hR : 0 < R) (hC : 0 < C) (hX : X S1) (d2 : (Prt.mk S2 B2 N2 cap2 O2 R C T2) = (Prt.mk S1 B1 N1 cap1 O1 R C T1) ∨ Dis (Prt.mk S2 B2 N2 cap2 O2 R C T2) (Prt.mk S1 B1 N1 cap1 O1 R C T1)) (d3 : (Prt.mk S3 B3 N3 cap3 O3 R C T3) = (Prt.mk S1 B1 N1 cap1 O1 R C T1) ∨ Dis (Prt.mk S3 B3 N3 cap3 O3 R C T3) (Prt.mk S1 B1 N1 cap1 O1 R C T1)) :
    Calls Try.prog 101 #[.agg #[.int .i64 (R : Int), .int .i64 (C : Int), .int .i64 (T1 : Int), .int .i64 (O1 : Int), .slice (some ⟨S1, B1, none⟩) N1 cap1], .agg #[.int .i64 (R : Int), .int .i64 (C : Int), .int .i64 (T2 : Int), .int .i64 (O2 : Int), .slice (some ⟨S2, B2, none⟩) N2 cap2], .agg #[.int .i64 (R : Int), .int .i64 (C : Int), .int .i64 (T3 : Int), .int .i64 (O3 : Int), .slice (some ⟨S3, B3, none⟩) N3 cap3]] w fun e W' => e = .returned (.tuple #[]) ∧ ∃ m', St L X b g s n u h m' W' ∧ Only (Prt.mk S1 B1 N1 cap1 O1 R C T1) m m' ∧ (∀ i j, i < R → j < C → (Prt.mk S1 B1 N1 cap1 O1 R C T1).get m' i j = plusU ((Prt.mk S2 B2 N2 cap2 O2 R C T2).get m i j) ((Prt.mk S3 B3 N3 cap3 O3 R C T3).get m i j)) ∧ Kq X g w W' := by
  obtain ⟨B0, G1, G2, hw1⟩ := vboxm w #[.int .i64 (R : Int), .int .i64 (C : Int), .int .i64 (T1 : Int), .int .i64 (O1 : Int), .slice (some ⟨S1, B1, none⟩) N1 cap1] #[.int .i64 (R : Int), .int .i64 (C : Int), .int .i64 (T2 : Int), .int .i64 (O2 : Int), .slice (some ⟨S2, B2, none⟩) N2 cap2] 82 82 _ rfl
  obtain ⟨j3, G3⟩ := mbox ((w.alloc (.cells #[.int .i64 (R : Int), .int .i64 (C : Int), .int .i64 (T1 : Int), .int .i64 (O1 : Int), .slice (some ⟨S1, B1, none⟩) N1 cap1] 82)).alloc (.cells #[.int .i64 (R : Int), .int .i64 (C : Int), .int .i64 (T2 : Int), .int .i64 (O2 : Int), .slice (some ⟨S2, B2, none⟩) N2 cap2] 82)) #[.int .i64 (R : Int), .int .i64 (C : Int), .int .i64 (T3 : Int), .int .i64 (O3 : Int), .slice (some ⟨S3, B3, none⟩) N3 cap3] 82 _ rfl
  replace G1 := G1.behind j3
  replace G2 := G2.behind j3
  replace B0 := below_both B0 j3
  simp only [World.size_alloc] at G3
  have ka0 := G1.cell (i := 0) rfl
  have ka1 := G1.cell (i := 1) rfl
  have ka2 := G1.cell (i := 2) rfl
  have ka3 := G1.cell (i := 3) rfl
  have ka4 := G1.cell (i := 4) rfl
  have kb0 := G2.cell (i := 0) rfl
  have kb1 := G2.cell (i := 1) rfl
  have kb2 := G2.cell (i := 2) rfl
  have kb3 := G2.cell (i := 3) rfl
  have kb4 := G2.cell (i := 4) rfl
  have kc0 := G3.cell (i := 0) rfl
  have kc1 := G3.cell (i := 1) rfl
  have kc2 := G3.cell (i := 2) rfl
  have kc3 := G3.cell (i := 3) rfl
  have kc4 := G3.cell (i := 4) rfl
  have hp := wi_pair0 (k := 70) plusU (fun a b W ha hb => by
    refine (fadd_add (mode := 0) (w := W) ha hb).mono ?_
    rintro e W' ⟨rfl, hb⟩
    exact ⟨_, rfl, hb⟩) (fun a b ha hb => plusU_lt ha hb) (enters_of Try.func70 (by kernel_rfl) rfl) (hs.behind B0) h1 h2 h3 hR hC hX d2 d3
  have HB := Lib.hid B0
  have HP := Lib.hid hp
  clear hs h1 h2 h3 hR hC hX d2 d3 hw1 j3 G1 G2 G3 B0 hp
  go_enter Try.func101, Try.ntmps101
  go_wp2_with fail
  generalize ((w.alloc (.cells #[.int .i64 (R : Int), .int .i64 (C : Int), .int .i64 (T1 : Int), .int .i64 (O1 : Int), .slice (some ⟨S1, B1, none⟩) N1 cap1] 82)).alloc (.cells #[.int .i64 (R : Int), .int .i64 (C : Int), .int .i64 (T2 : Int), .int .i64 (O2 : Int), .slice (some ⟨S2, B2, none⟩) N2 cap2] 82)).alloc (.cells #[.int .i64 (R : Int), .int .i64 (C : Int), .int .i64 (T3 : Int), .int .i64 (O3 : Int), .slice (some ⟨S3, B3, none⟩) N3 cap3] 82) = W0 at *
  refine HP.out.mono ?_
  rintro e w1 ⟨rfl, m', h1, h2, h3, h4⟩
  go_wp2
  exact bodyPost_end (results_none (Try.results101) _ _ _) rfl ⟨rfl, m', h1, h2, h3, (Kq.of HB.out).trans h4⟩
theorem wi_add {o x y : Prt} {b g s n u h R C : Nat} {L : Nat → Nat → Prop} {X : Nat → Prop} {m : Nat → Nat → Nat} {w : World}
    (hs : St L X b g s n u h m w) (h1 : o.ok L) (h2 : x.ok L) (h3 : y.ok L) (r1 : o.R = R) (c1 : o.C = C) (r2 : x.R = R) (c2 : x.C = C) (r3 : y.R = R) (c3 : y.C = C) (hR : 0 < R) (hC : 0 < C) (hX : X o.S) (d2 : x = o ∨ Dis x o) (d3 : y = o ∨ Dis y o) :
    Calls Try.prog 101 #[o.val, x.val, y.val] w fun e W' => e = .returned (.tuple #[]) ∧ ∃ m', St L X b g s n u h m' W' ∧ Only o m m' ∧ (∀ i j, i < R → j < C → o.get m' i j = plusU (x.get m i j) (y.get m i j)) ∧ Kq X g w W' := by
  obtain ⟨S1, B1, N1, cap1, O1, R1, C1, T1⟩ := o
  obtain ⟨S2, B2, N2, cap2, O2, R2, C2, T2⟩ := x
  obtain ⟨S3, B3, N3, cap3, O3, R3, C3, T3⟩ := y
  dsimp only at r1 c1 r2 c2 r3 c3
  subst r1 c1
  subst r2 c2
  subst r3 c3
  exact wi_add0 hs h1 h2 h3 hR hC hX d2 d3
set_option maxRecDepth 100000 in
set_option maxHeartbeats 16000000 in
theorem wi_sub0 {R C S1 B1 N1 cap1 O1 T1 S2 B2 N2 cap2 O2 T2 S3 B3 N3 cap3 O3 T3 b g s n u h : Nat} {L : Nat → Nat → Prop} {X : Nat → Prop} {m : Nat → Nat → Nat} {w : World}
    (hs : St L X b g s n u h m w) (h1 : (Prt.mk S1 B1 N1 cap1 O1 R C T1).ok L) (h2 : (Prt.mk S2 B2 N2 cap2 O2 R C T2).ok L) (h3 : (Prt.mk S3 B3 N3 cap3 O3 R C T3).ok L) (hR : 0 < R) (hC : 0 < C) (hX : X S1) (d2 : (Prt.mk S2 B2 N2 cap2 O2 R C T2) = (Prt.mk S1 B1 N1 cap1 O1 R C T1) ∨ Dis (Prt.mk S2 B2 N2 cap2 O2 R C T2) (Prt.mk S1 B1 N1 cap1 O1 R C T1)) (d3 : (Prt.mk S3 B3 N3 cap3 O3 R C T3) = (Prt.mk S1 B1 N1 cap1 O1 R C T1) ∨ Dis (Prt.mk S3 B3 N3 cap3 O3 R C T3) (Prt.mk S1 B1 N1 cap1 O1 R C T1)) :
    Calls Try.prog 102 #[.agg #[.int .i64 (R : Int), .int .i64 (C : Int), .int .i64 (T1 : Int), .int .i64 (O1 : Int), .slice (some ⟨S1, B1, none⟩) N1 cap1], .agg #[.int .i64 (R : Int), .int .i64 (C : Int), .int .i64 (T2 : Int), .int .i64 (O2 : Int), .slice (some ⟨S2, B2, none⟩) N2 cap2], .agg #[.int .i64 (R : Int), .int .i64 (C : Int), .int .i64 (T3 : Int), .int .i64 (O3 : Int), .slice (some ⟨S3, B3, none⟩) N3 cap3]] w fun e W' => e = .returned (.tuple #[]) ∧ ∃ m', St L X b g s n u h m' W' ∧ Only (Prt.mk S1 B1 N1 cap1 O1 R C T1) m m' ∧ (∀ i j, i < R → j < C → (Prt.mk S1 B1 N1 cap1 O1 R C T1).get m' i j = minusU ((Prt.mk S2 B2 N2 cap2 O2 R C T2).get m i j) ((Prt.mk S3 B3 N3 cap3 O3 R C T3).get m i j)) ∧ Kq X g w W' := by
  obtain ⟨B0, G1, G2, hw1⟩ := vboxm w #[.int .i64 (R : Int), .int .i64 (C : Int), .int .i64 (T1 : Int), .int .i64 (O1 : Int), .slice (some ⟨S1, B1, none⟩) N1 cap1] #[.int .i64 (R : Int), .int .i64 (C : Int), .int .i64 (T2 : Int), .int .i64 (O2 : Int), .slice (some ⟨S2, B2, none⟩) N2 cap2] 82 82 _ rfl
  obtain ⟨j3, G3⟩ := mbox ((w.alloc (.cells #[.int .i64 (R : Int), .int .i64 (C : Int), .int .i64 (T1 : Int), .int .i64 (O1 : Int), .slice (some ⟨S1, B1, none⟩) N1 cap1] 82)).alloc (.cells #[.int .i64 (R : Int), .int .i64 (C : Int), .int .i64 (T2 : Int), .int .i64 (O2 : Int), .slice (some ⟨S2, B2, none⟩) N2 cap2] 82)) #[.int .i64 (R : Int), .int .i64 (C : Int), .int .i64 (T3 : Int), .int .i64 (O3 : Int), .slice (some ⟨S3, B3, none⟩) N3 cap3] 82 _ rfl
  replace G1 := G1.behind j3
  replace G2 := G2.behind j3
  replace B0 := below_both B0 j3
  simp only [World.size_alloc] at G3
  have ka0 := G1.cell (i := 0) rfl
  have ka1 := G1.cell (i := 1) rfl
  have ka2 := G1.cell (i := 2) rfl
  have ka3 := G1.cell (i := 3) rfl
  have ka4 := G1.cell (i := 4) rfl
  have kb0 := G2.cell (i := 0) rfl
  have kb1 := G2.cell (i := 1) rfl
  have kb2 := G2.cell (i := 2) rfl
  have kb3 := G2.cell (i := 3) rfl
  have kb4 := G2.cell (i := 4) rfl
  have kc0 := G3.cell (i := 0) rfl
  have kc1 := G3.cell (i := 1) rfl
  have kc2 := G3.cell (i := 2) rfl
  have kc3 := G3.cell (i := 3) rfl
  have kc4 := G3.cell (i := 4) rfl
  have hp := wi_pair0 (k := 59) minusU (fun a b W ha hb => by
    refine (fadd_sub (mode := 0) (w := W) ha hb).mono ?_
    rintro e W' ⟨rfl, hb⟩
    exact ⟨_, rfl, hb⟩) (fun a b ha hb => minusU_lt ha hb) (enters_of Try.func59 (by kernel_rfl) rfl) (hs.behind B0) h1 h2 h3 hR hC hX d2 d3
  have HB := Lib.hid B0
  have HP := Lib.hid hp
  clear hs h1 h2 h3 hR hC hX d2 d3 hw1 j3 G1 G2 G3 B0 hp
  go_enter Try.func102, Try.ntmps102
  go_wp2_with fail
  generalize ((w.alloc (.cells #[.int .i64 (R : Int), .int .i64 (C : Int), .int .i64 (T1 : Int), .int .i64 (O1 : Int), .slice (some ⟨S1, B1, none⟩) N1 cap1] 82)).alloc (.cells #[.int .i64 (R : Int), .int .i64 (C : Int), .int .i64 (T2 : Int), .int .i64 (O2 : Int), .slice (some ⟨S2, B2, none⟩) N2 cap2] 82)).alloc (.cells #[.int .i64 (R : Int), .int .i64 (C : Int), .int .i64 (T3 : Int), .int .i64 (O3 : Int), .slice (some ⟨S3, B3, none⟩) N3 cap3] 82) = W0 at *
  refine HP.out.mono ?_
  rintro e w1 ⟨rfl, m', h1, h2, h3, h4⟩
  go_wp2
  exact bodyPost_end (results_none (Try.results102) _ _ _) rfl ⟨rfl, m', h1, h2, h3, (Kq.of HB.out).trans h4⟩
theorem wi_sub {o x y : Prt} {b g s n u h R C : Nat} {L : Nat → Nat → Prop} {X : Nat → Prop} {m : Nat → Nat → Nat} {w : World}
    (hs : St L X b g s n u h m w) (h1 : o.ok L) (h2 : x.ok L) (h3 : y.ok L) (r1 : o.R = R) (c1 : o.C = C) (r2 : x.R = R) (c2 : x.C = C) (r3 : y.R = R) (c3 : y.C = C) (hR : 0 < R) (hC : 0 < C) (hX : X o.S) (d2 : x = o ∨ Dis x o) (d3 : y = o ∨ Dis y o) :
    Calls Try.prog 102 #[o.val, x.val, y.val] w fun e W' => e = .returned (.tuple #[]) ∧ ∃ m', St L X b g s n u h m' W' ∧ Only o m m' ∧ (∀ i j, i < R → j < C → o.get m' i j = minusU (x.get m i j) (y.get m i j)) ∧ Kq X g w W' := by
  obtain ⟨S1, B1, N1, cap1, O1, R1, C1, T1⟩ := o
  obtain ⟨S2, B2, N2, cap2, O2, R2, C2, T2⟩ := x
  obtain ⟨S3, B3, N3, cap3, O3, R3, C3, T3⟩ := y
  dsimp only at r1 c1 r2 c2 r3 c3
  subst r1 c1
  subst r2 c2
  subst r3 c3
  exact wi_sub0 hs h1 h2 h3 hR hC hX d2 d3
end Go.Proofs.Ytjapilpjahhimaa

/- winograd: dots. -/
namespace Go.Proofs.Ytjapilpjahhimaa
open Go.RowKit Go.Shelf
theorem arg_row {S o K cap : Nat} {W : World} {f : Nat → Nat} (hS : S < W.heap.size) (hc : K ≤ cap) (h : ∀ t, t < K → W.cell? ⟨S, o + t, none⟩ = some (.int .u64 (f t : Int))) : Arg W (.slice (some ⟨S, o, none⟩) K cap) (rowV K f) := by
  refine ⟨S, hS, .inr ⟨o, cap, by rw [rowV_length], by rw [rowV_length]; exact hc, fun j hj => ?_⟩⟩
  rw [rowV_length] at hj
  rw [rowV_lim _ hj]
  exact h j hj
set_option maxRecDepth 100000 in
set_option maxHeartbeats 16000000 in
theorem wi_dots0 {R C K S1 B1 N1 cap1 O1 T1 S2 B2 N2 cap2 O2 T2 S3 B3 N3 cap3 O3 T3 b g s n u h : Nat} {L : Nat → Nat → Prop} {X : Nat → Prop} {m : Nat → Nat → Nat} {w : World}
    (hs : St L X b g s n u h m w) (h1 : (Prt.mk S1 B1 N1 cap1 O1 R C T1).ok L) (h2 : (Prt.mk S2 B2 N2 cap2 O2 R K T2).ok L) (h3 : (Prt.mk S3 B3 N3 cap3 O3 K C T3).ok L) (hK : 0 < K) (hX : X S1) (d2 : Dis (Prt.mk S2 B2 N2 cap2 O2 R K T2) (Prt.mk S1 B1 N1 cap1 O1 R C T1)) (d3 : Dis (Prt.mk S3 B3 N3 cap3 O3 K C T3) (Prt.mk S1 B1 N1 cap1 O1 R C T1)) :
    Calls Try.prog 77 #[.agg #[.int .i64 (R : Int), .int .i64 (C : Int), .int .i64 (T1 : Int), .int .i64 (O1 : Int), .slice (some ⟨S1, B1, none⟩) N1 cap1], .agg #[.int .i64 (R : Int), .int .i64 (K : Int), .int .i64 (T2 : Int), .int .i64 (O2 : Int), .slice (some ⟨S2, B2, none⟩) N2 cap2], .agg #[.int .i64 (K : Int), .int .i64 (C : Int), .int .i64 (T3 : Int), .int .i64 (O3 : Int), .slice (some ⟨S3, B3, none⟩) N3 cap3]] w fun e W' => ∃ (ok : Bool) (m' : Nat → Nat → Nat), e = .returned (.bool ok) ∧ St L X b g s n u h m' W' ∧ Only (Prt.mk S1 B1 N1 cap1 O1 R C T1) m m' ∧ (ok = true → ∀ i j, i < R → j < C → (Prt.mk S1 B1 N1 cap1 O1 R C T1).get m' i j = dotN ((Prt.mk S2 B2 N2 cap2 O2 R K T2).get m) ((Prt.mk S3 B3 N3 cap3 O3 K C T3).get m) K i j) ∧ (ok = false → ∃ i j, i < R ∧ j < C ∧ 2 ≤ cls (dotN ((Prt.mk S2 B2 N2 cap2 O2 R K T2).get m) ((Prt.mk S3 B3 N3 cap3 O3 K C T3).get m) K i j)) ∧ Kq X g w W' := by
  obtain ⟨f, hf⟩ : ∃ f : Nat → Nat → Nat, f = dotN ((Prt.mk S2 B2 N2 cap2 O2 R K T2).get m) ((Prt.mk S3 B3 N3 cap3 O3 K C T3).get m) K := ⟨_, rfl⟩
  obtain ⟨old, hold⟩ : ∃ f : Nat → Nat → Nat, f = fun i j => (Prt.mk S1 B1 N1 cap1 O1 R C T1).get m i j := ⟨_, rfl⟩
  have hgx : ∀ S, X S → S < w.heap.size := fun S hS => (hs.me.wb S hS).lt
  have hgg : g < w.heap.size := by obtain ⟨ws, A⟩ := hs.an; exact A.box.lt
  have hR : R ≤ 64 := h1.r
  have hC : C ≤ 64 := h1.c
  have hK64 : K ≤ 64 := h2.c
  -- a row, a column, their dot
  have HROW : Hid (∀ (i : Nat) (m' : Nat → Nat → Nat) (W W2 : World), i < R → St L X b g s n u h m' W → Only (Prt.mk S1 B1 N1 cap1 O1 R C T1) m m' → Below W.heap.size W W2 → Arg W2 (.slice (some ⟨S2, (Prt.mk S2 B2 N2 cap2 O2 R K T2).at i 0, none⟩) K (cap2 - (O2 + i * T2))) (rowV K ((Prt.mk S2 B2 N2 cap2 O2 R K T2).get m i))) := Lib.hid (fun i m' W W2 hi hst ho hb => by
    have hbd := h2.bound hi hK
    have hnc := h2.nc
    dsimp only at hbd hnc
    have hl : S2 < W.heap.size := hst.me.lt S2 _ (h2.lv i 0 hi hK)
    refine (arg_row hl (by omega) fun t ht => ?_).behind hb
    have hat : (Prt.mk S2 B2 N2 cap2 O2 R K T2).at i 0 + t = (Prt.mk S2 B2 N2 cap2 O2 R K T2).at i t := by unfold Prt.at; dsimp only; omega
    rw [hat, ← ho.get d2 hi ht]
    exact hst.cell (h2.lv i t hi ht))
  have HCOL : Hid (∀ (j : Nat) (m' : Nat → Nat → Nat) (W : World), j < C → St L X b g s n u h m' W → Only (Prt.mk S1 B1 N1 cap1 O1 R C T1) m m' → Calls Try.prog 81 #[.agg #[.int .i64 (K : Int), .int .i64 (C : Int), .int .i64 (T3 : Int), .int .i64 (O3 : Int), .slice (some ⟨S3, B3, none⟩) N3 cap3], .int .i64 (j : Int)] W fun e W' => ∃ d c, e = .returned (.slice (some ⟨d, 0, none⟩) K c) ∧ OwnK .u64 49 W.heap.size W' (.slice (some ⟨d, 0, none⟩) K c) (zn (rowV K fun t => (Prt.mk S3 B3 N3 cap3 O3 K C T3).get m t j)) ∧ Below W.heap.size W W') := Lib.hid (fun j m' W hj hst ho => by
    have hc := wi_col hst h3 hj hK
    have he : (rowV K fun t => (Prt.mk S3 B3 N3 cap3 O3 K C T3).get m' t j) = rowV K fun t => (Prt.mk S3 B3 N3 cap3 O3 K C T3).get m t j := ext_lim (by rw [rowV_length, rowV_length]) fun t ht => by
      rw [rowV_length] at ht
      rw [rowV_lim _ ht, rowV_lim _ ht]
      exact ho.get d3 ht hj
    dsimp only [Prt.val] at hc
    rw [he] at hc
    exact hc)
  have HDOT : Hid (∀ (i j : Nat) (W : World) (v1 v2 : Value), Arg W v1 (rowV K ((Prt.mk S2 B2 N2 cap2 O2 R K T2).get m i)) → Arg W v2 (rowV K fun t => (Prt.mk S3 B3 N3 cap3 O3 K C T3).get m t j) → ∃ (z : Nat) (E : Int), Calls Try.prog 74 #[v1, v2] W (fun e W' => e = .returned (.tuple #[.int .u64 (z : Int), .int .i64 E]) ∧ Below W.heap.size W W') ∧ ((E = 0 ∧ z = f i j) ∨ (E ≠ 0 ∧ 2 ≤ cls (f i j)))) := Lib.hid (fun i j W v1 v2 a1 a2 => by
    have l2 := hs.me.lw
    refine ⟨_, _, vec_dot a1 a2 (rowV_low fun t _ => by have := l2 S2 ((Prt.mk S2 B2 N2 cap2 O2 R K T2).at i t); unfold Prt.get; dsimp only; omega) (rowV_low fun t _ => by have := l2 S3 ((Prt.mk S3 B3 N3 cap3 O3 K C T3).at t j); unfold Prt.get; dsimp only; omega) (by rw [rowV_length]; omega) (by rw [rowV_length]; omega), ?_⟩
    rcases dotN_told (f := (Prt.mk S2 B2 N2 cap2 O2 R K T2).get m) (g := (Prt.mk S3 B3 N3 cap3 O3 K C T3).get m) (i := i) (j := j) hK64 with ⟨q1, q2, q3⟩ | ⟨q1, q2⟩
    · exact .inl ⟨q1, by rw [hf]; exact q2⟩
    · exact .inr ⟨q1, by rw [hf]; exact q2⟩)
  have HSTEP : Hid (∀ (i j : Nat) (m' : Nat → Nat → Nat), i < R → j < C → Only (Prt.mk S1 B1 N1 cap1 O1 R C T1) m m' → (∀ i' j', i' < R → j' < C → (Prt.mk S1 B1 N1 cap1 O1 R C T1).get m' i' j' = if j' < j ∨ (j' = j ∧ i' < i) then f i' j' else old i' j') →
      Only (Prt.mk S1 B1 N1 cap1 O1 R C T1) m (upM m' S1 ((Prt.mk S1 B1 N1 cap1 O1 R C T1).at i j) (f i j)) ∧ (∀ i' j', i' < R → j' < C → (Prt.mk S1 B1 N1 cap1 O1 R C T1).get (upM m' S1 ((Prt.mk S1 B1 N1 cap1 O1 R C T1).at i j) (f i j)) i' j' = if j' < j ∨ (j' = j ∧ i' < i + 1) then f i' j' else old i' j')) := Lib.hid (fun i j m' hi hj ho hv => by
    refine ⟨ho.trans (upM_only (c := (Prt.mk S1 B1 N1 cap1 O1 R C T1)) hi hj), fun i' j' hi' hj' => ?_⟩
    by_cases e : i' = i ∧ j' = j
    · obtain ⟨rfl, rfl⟩ := e
      rw [if_pos (by omega)]
      exact upM_at _ _ _ _
    · have hne : ¬ (S1 = S1 ∧ (Prt.mk S1 B1 N1 cap1 O1 R C T1).at i' j' = (Prt.mk S1 B1 N1 cap1 O1 R C T1).at i j) := fun k => e (Prt.at_inj h1 hj' hj k.2)
      have h9 := hv i' j' hi' hj'
      show upM m' S1 _ _ S1 ((Prt.mk S1 B1 N1 cap1 O1 R C T1).at i' j') = _
      rw [upM_else hne]
      have h10 : m' S1 ((Prt.mk S1 B1 N1 cap1 O1 R C T1).at i' j') = (Prt.mk S1 B1 N1 cap1 O1 R C T1).get m' i' j' := rfl
      rw [h10, h9]
      by_cases c : j' < j ∨ (j' = j ∧ i' < i)
      · rw [if_pos c, if_pos (by omega)]
      · rw [if_neg c, if_neg (by omega)])
  have HFLT : Hid (∀ i j, f i j < 18446744073709551616) := Lib.hid (fun i j => by have := dotN_lt ((Prt.mk S2 B2 N2 cap2 O2 R K T2).get m) ((Prt.mk S3 B3 N3 cap3 O3 K C T3).get m) K i j; rw [hf]; omega)
  have HR1 := Lib.hid (fun (i : Nat) (hi : i < R) (hC : 0 < C) (W : World) => wi_row h1 hi hC (w := W))
  have HR2 := Lib.hid (fun (i : Nat) (hi : i < R) (W : World) => wi_row h2 hi hK (w := W))
  have HL1 := Lib.hid h1.lv
  have HXS : Hid ((∀ S, X S → S < w.heap.size) ∧ g < w.heap.size ∧ X S1) := Lib.hid ⟨hgx, hgg, hX⟩
  have HS0 := Lib.hid hs
  have HV0 : Hid (∀ i' j', i' < R → j' < C → (Prt.mk S1 B1 N1 cap1 O1 R C T1).get m i' j' = if j' < 0 then f i' j' else old i' j') := Lib.hid (fun i' j' _ _ => by rw [if_neg (by omega), hold])
  have hR64 : (R : Int) ≤ 64 := by omega
  have hC64 : (C : Int) ≤ 64 := by omega
  rw [← hf]
  obtain ⟨B0, G1, G2, hw1⟩ := vboxm w #[.int .i64 (R : Int), .int .i64 (C : Int), .int .i64 (T1 : Int), .int .i64 (O1 : Int), .slice (some ⟨S1, B1, none⟩) N1 cap1] #[.int .i64 (R : Int), .int .i64 (K : Int), .int .i64 (T2 : Int), .int .i64 (O2 : Int), .slice (some ⟨S2, B2, none⟩) N2 cap2] 82 82 _ rfl
  obtain ⟨j3, G3⟩ := mbox ((w.alloc (.cells #[.int .i64 (R : Int), .int .i64 (C : Int), .int .i64 (T1 : Int), .int .i64 (O1 : Int), .slice (some ⟨S1, B1, none⟩) N1 cap1] 82)).alloc (.cells #[.int .i64 (R : Int), .int .i64 (K : Int), .int .i64 (T2 : Int), .int .i64 (O2 : Int), .slice (some ⟨S2, B2, none⟩) N2 cap2] 82)) #[.int .i64 (K : Int), .int .i64 (C : Int), .int .i64 (T3 : Int), .int .i64 (O3 : Int), .slice (some ⟨S3, B3, none⟩) N3 cap3] 82 _ rfl
  replace G1 := G1.behind j3
  replace G2 := G2.behind j3
  replace B0 := below_both B0 j3
  simp only [World.size_alloc] at G3
  have ka1 := G1.cell (i := 1) rfl
  clear hs h1 h2 h3 hK hR hC hK64 hX d2 d3 hf hold hgx hgg hw1 j3
  go_enter Try.func77, Try.ntmps77
  go_wp2
  generalize ((w.alloc (.cells #[.int .i64 (R : Int), .int .i64 (C : Int), .int .i64 (T1 : Int), .int .i64 (O1 : Int), .slice (some ⟨S1, B1, none⟩) N1 cap1] 82)).alloc (.cells #[.int .i64 (R : Int), .int .i64 (K : Int), .int .i64 (T2 : Int), .int .i64 (O2 : Int), .slice (some ⟨S2, B2, none⟩) N2 cap2] 82)).alloc (.cells #[.int .i64 (K : Int), .int .i64 (C : Int), .int .i64 (T3 : Int), .int .i64 (O3 : Int), .slice (some ⟨S3, B3, none⟩) N3 cap3] 82) = W0 at *
  have HG := Lib.hid (And.intro G1 (And.intro G2 G3))
  have HB0 := Lib.hid B0
  clear G1 G2 G3 B0 ka1
  go_loopw [15] (fun q wr => ∃ (j : Nat) (m' : Nat → Nat → Nat), j ≤ C ∧ q = .int .i64 j ∧ St L X b g s n u h m' wr ∧ Only (Prt.mk S1 B1 N1 cap1 O1 R C T1) m m' ∧ Hid (∀ i' j', i' < R → j' < C → (Prt.mk S1 B1 N1 cap1 O1 R C T1).get m' i' j' = if j' < j then f i' j' else old i' j') ∧ Kq X g W0 wr) (fun q _ => C - (intOf q).toNat)
  case atStart => exact ⟨0, m, Nat.zero_le _, rfl, HS0.out.behind HB0.out, Only.refl _ _, HV0, Kq.refl _ _ _⟩
  case round =>
    obtain ⟨j, m', hj, rfl, hst, hon, HV, hkq⟩ := hrel
    by_cases hlt : j < C
    · have q1 : decide ((j : Int) < (C : Int)) = true := decide_eq_true (by omega)
      have K1 := hkq.ms HG.out.1 (fun h => by have := HXS.out.1 _ h; omega) (by have := HXS.out.2.1; omega)
      have K3 := hkq.ms HG.out.2.2 (fun h => by have := HXS.out.1 _ h; omega) (by have := HXS.out.2.1; omega)
      have kr := K1.cell (i := 0) rfl
      have kc0 := K3.cell (i := 0) rfl
      have kc1 := K3.cell (i := 1) rfl
      have kc2 := K3.cell (i := 2) rfl
      have kc3 := K3.cell (i := 3) rfl
      have kc4 := K3.cell (i := 4) rfl
      have HCL := Lib.hid (HCOL.out j m' wr hlt hst hon)
      have HST := Lib.hid hst
      have HON := Lib.hid hon
      have HKQ := Lib.hid hkq
      have HJ := Lib.hid hlt
      have HK1 := Lib.hid K1
      clear hst hon hkq K1 K3
      obtain ⟨w5, rfl⟩ : ∃ wo, wo = wr := ⟨_, rfl⟩
      go_wp2_with fail
      refine HCL.out.mono ?_
      rintro e w6 ⟨d, cc, rfl, hO, b6⟩
      have kr6 := (HK1.out.behind b6).cell (i := 0) rfl
      have HO6 := Lib.hid hO
      have HST6 := Lib.hid (HST.out.behind b6)
      have HKQ6 := Lib.hid (HKQ.out.below b6)
      have HWS : Hid (w.heap.size ≤ w5.heap.size) := Lib.hid (by have := HKQ.out.size; have := HB0.out.size; omega)
      clear kr kc0 kc1 kc2 kc3 kc4 hO b6 HCL HST
      go_wp2
      go_loopw [24] (fun q wr => ∃ (i : Nat) (m' : Nat → Nat → Nat), i ≤ R ∧ q = .int .i64 i ∧ St L X b g s n u h m' wr ∧ Only (Prt.mk S1 B1 N1 cap1 O1 R C T1) m m' ∧ Hid (∀ i' j', i' < R → j' < C → (Prt.mk S1 B1 N1 cap1 O1 R C T1).get m' i' j' = if j' < j ∨ (j' = j ∧ i' < i) then f i' j' else old i' j') ∧ Kq X g W0 wr ∧ OwnK .u64 49 w5.heap.size wr (.slice (some ⟨d, 0, none⟩) K cc) (zn (rowV K fun t => (Prt.mk S3 B3 N3 cap3 O3 K C T3).get m t j))) (fun q _ => R - (intOf q).toNat)
      case atStart => exact ⟨0, m', Nat.zero_le _, rfl, HST6.out, HON.out, Lib.hid (fun i' j' hi' hj' => by
        rw [HV.out i' j' hi' hj']
        by_cases c : j' < j
        · rw [if_pos c, if_pos (.inl c)]
        · rw [if_neg c, if_neg (by omega)]), HKQ6.out, HO6.out⟩
      case round =>
        clear kr6
        obtain ⟨i, m'', hi, rfl, hst, hon, HV2, hkq, hO⟩ := hrel
        by_cases hlt2 : i < R
        · have q2 : decide ((i : Int) < (R : Int)) = true := decide_eq_true (by omega)
          have K1 := hkq.ms HG.out.1 (fun h => by have := HXS.out.1 _ h; omega) (by have := HXS.out.2.1; omega)
          have K2 := hkq.ms HG.out.2.1 (fun h => by have := HXS.out.1 _ h; omega) (by have := HXS.out.2.1; omega)
          have kb0 := K2.cell (i := 0) rfl
          have kb1 := K2.cell (i := 1) rfl
          have kb2 := K2.cell (i := 2) rfl
          have kb3 := K2.cell (i := 3) rfl
          have kb4 := K2.cell (i := 4) rfl
          obtain ⟨P2, hP2⟩ : ∃ P, P = (Prt.mk S2 B2 N2 cap2 O2 R K T2).at i 0 := ⟨_, rfl⟩
          obtain ⟨P1, hP1⟩ : ∃ P, P = (Prt.mk S1 B1 N1 cap1 O1 R C T1).at i 0 := ⟨_, rfl⟩
          have HW2 := Lib.hid (HR2.out i hlt2)
          have HW1 := Lib.hid (HR1.out i hlt2 (by have := HJ.out; omega))
          have HAR := Lib.hid (fun W2 (hb : Below wr.heap.size wr W2) => HROW.out i m'' wr W2 hlt2 hst hon hb)
          dsimp only [Prt.val] at HW1 HW2
          rw [← hP2] at HW2 HAR
          rw [← hP1] at HW1
          have HAT : Hid ((Prt.mk S1 B1 N1 cap1 O1 R C T1).at i j = P1 + j) := Lib.hid (by rw [hP1]; unfold Prt.at; dsimp only; omega)
          have HAC := Lib.hid (fun W2 (hb : Below wr.heap.size wr W2) => (new_zn.2 (hO.new (show 0 < wr.heap.size by have := hkq.size; have := HB0.out.size; have := HXS.out.2.1; omega))).arg.behind hb)
          have HSV := Lib.hid (HSTEP.out i j m'' hlt2 HJ.out hon HV2.out)
          have HLV : Hid (L S1 ((Prt.mk S1 B1 N1 cap1 O1 R C T1).at i j) ∧ X S1) := Lib.hid ⟨HL1.out i j hlt2 HJ.out, HXS.out.2.2⟩
          generalize cap1 - (O1 + i * T1) = cq1 at *
          generalize cap2 - (O2 + i * T2) = cq2 at *
          have HI := Lib.hid hlt2
          have HST := Lib.hid hst
          have HON := Lib.hid hon
          have HKQ := Lib.hid hkq
          have HOO := Lib.hid hO
          have HK1 := Lib.hid K1
          have hjC : (j : Int) < (C : Int) := by have := HJ.out; omega
          clear hP1 hP2 hst hon hkq hO K1 K2 hlt2
          go_wp2_with fail
          refine (HW2.out _).mono ?_
          rintro e w7 ⟨rfl, b7⟩
          obtain ⟨z, E, hdot, hE⟩ := HDOT.out i j w7 _ _ (HAR.out _ b7) (HAC.out _ b7)
          have HDD := Lib.hid hdot
          have HEE := Lib.hid hE
          have HB7 := Lib.hid b7
          clear kb0 kb1 kb2 kb3 kb4 b7 hdot hE
          go_wp2_with fail
          refine HDD.out.mono ?_
          rintro e w8 ⟨rfl, b8⟩
          have HB8 := Lib.hid (below_both HB7.out b8)
          have K8 := HK1.out.behind (below_both HB7.out b8)
          have ka0 := K8.cell (i := 0) rfl
          have ka1 := K8.cell (i := 1) rfl
          have ka2 := K8.cell (i := 2) rfl
          have ka3 := K8.cell (i := 3) rfl
          have ka4 := K8.cell (i := 4) rfl
          clear b8 K8
          rcases HEE.out with ⟨rfl, hz⟩ | ⟨hne, hbad⟩
          · have HZ := Lib.hid hz
            clear hz
            go_wp2_with fail
            refine (HW1.out _).mono ?_
            rintro e w9 ⟨rfl, b9⟩
            have HB9 := Lib.hid (below_both HB8.out b9)
            have st9 := HST.out.behind (below_both HB8.out b9)
            have kc9 := st9.cell HLV.out.1
            rw [HAT.out] at kc9
            have kf9 := st9.me.frozen HLV.out.2 (P1 + j)
            have HS9 := Lib.hid (st9.set HLV.out.2 HLV.out.1 (v := z) (by rw [HZ.out]; exact HFLT.out i j))
            have HO9 := Lib.hid ((HOO.out.below (below_both HB8.out b9)).far (p := ⟨S1, P1 + j, none⟩) (show S1 < w5.heap.size by have := HXS.out.1 _ HXS.out.2.2; have := HWS.out; omega) (.int .u64 (z : Int)))
            have HK9 := Lib.hid ((HKQ.out.below (below_both HB8.out b9)).trans (Kq.set (X := X) (g := g) (W := w9) HLV.out.2 (P1 + j) (.int .u64 (z : Int))))
            clear b9 st9 ka0 ka1 ka2 ka3 ka4
            go_wp2
            exact ⟨⟨i + 1, _, by have := HI.out; omega, by simp, by rw [HAT.out] at HS9; exact HS9.out, by rw [HZ.out, ← HAT.out]; exact HSV.out.1, Lib.hid (by rw [HZ.out, ← HAT.out]; exact HSV.out.2), HK9.out, HO9.out⟩, by have := HI.out; simp [intOf]; omega⟩
          · have HBAD : Hid (∃ i j, i < R ∧ j < C ∧ 2 ≤ cls (f i j)) := Lib.hid ⟨i, j, HI.out, HJ.out, hbad⟩
            have q3 : (E != 0) = true := bne_iff_ne.2 hne
            clear hne hbad ka0 ka1 ka2 ka3 ka4
            go_wp2
            go_ret
            exact ⟨false, m'', rfl, HST.out.behind HB8.out, HON.out, (fun h => by cases h), fun _ => HBAD.out, (Kq.of HB0.out).trans (HKQ.out.below HB8.out)⟩
        · obtain rfl : i = R := by omega
          have q2 : decide ((i : Int) < (i : Int)) = false := decide_eq_false (by omega)
          have HST := Lib.hid hst
          have HON := Lib.hid hon
          have HKQ := Lib.hid hkq
          clear hst hon hkq hlt2 hO
          go_wp2
          exact ⟨⟨j + 1, m'', by have := HJ.out; omega, by simp, HST.out, HON.out, Lib.hid (fun i' j' hi' hj' => by
            rw [HV2.out i' j' hi' hj']
            by_cases c : j' < j + 1
            · rw [if_pos c, if_pos (by omega)]
            · rw [if_neg c, if_neg (by omega)]), HKQ.out⟩, by have := HJ.out; simp [intOf]; omega⟩
    · obtain rfl : j = C := by omega
      have q1 : decide ((j : Int) < (j : Int)) = false := decide_eq_false (by omega)
      have HST := Lib.hid hst
      have HON := Lib.hid hon
      have HKQ := Lib.hid hkq
      clear hst hon hkq hlt
      go_wp2
      go_ret
      exact ⟨true, m', rfl, HST.out, HON.out, fun _ i' j' hi' hj' => by rw [HV.out i' j' hi' hj', if_pos hj'], (fun h => by cases h), (Kq.of HB0.out).trans HKQ.out⟩
end Go.Proofs.Ytjapilpjahhimaa
