/- dyadic's isExp, Check: may a number be? Blocks whose cells are known. -/
import Derived.Test.YtgobclmihppopabDoorDyNum
import Derived.Test.YtgobclmihppopabDoorWholeFive
import Derived.Test.YtgobclmihppopabDoorShl
namespace Go.Proofs.YtgobclmihppopabDoor
open Go.RowKit Go.Shelf
attribute [local go_sem ↓] Go.wp_at_zero Go.wp_at_succ

/-- block g holds just these cells -/
def Cs (W : World) (g : Nat) (cs : Array Value) (t : TypeId) : Prop := W.heap[g]? = some (.cells cs t (0, 0))
section
variable {W W' : World} {g : Nat} {cs : Array Value} {t : TypeId}
theorem Cs.lt (h : Cs W g cs t) : g < W.heap.size := (Array.getElem?_eq_some_iff.1 h).1
theorem Cs.cell (h : Cs W g cs t) {i : Nat} {v : Value} (hv : cs[i]? = some v) : W.cell? ⟨g, i, none⟩ = some v := by
  rw [cell_of_row W g i _ _ (0, 0) h, hv]
theorem Cs.f (h : Cs W g cs t) (i : Nat) : W.frozen? ⟨g, i, none⟩ = false := by simp [World.frozen?, show W.heap[g]? = _ from h]
theorem Cs.behind (h : Cs W g cs t) (hb : Below W.heap.size W W') : Cs W' g cs t := (hb.block g h.lt).trans h
theorem Cs.drew (h : Cs W g cs t) : Cs W.drew g cs t := h
theorem Cs.new (W : World) (cs : Array Value) (t : TypeId) : Cs (W.alloc (.cells cs t)) W.heap.size cs t := World.alloc_heap_new W _
theorem Cs.put (h : Cs W g cs t) {p : Addr} (hp : g ≠ p.block) (u : Value) : Cs (W.setCell p u) g cs t := (Below.heap_setCell _ _ _ _ hp).trans h
theorem Cs.set (h : Cs W g cs t) (i : Nat) (u : Value) : Cs (W.setCell ⟨g, i, none⟩ u) g (cs.setIfInBounds i u) t := by
  unfold Cs at h ⊢
  simp [World.setCell, Array.getElem?_modify, h]
end
/-- is an exponent within? -/
def expB (E : Int) : Bool := decide (-16384 ≤ E) && decide (E ≤ 16384)
theorem expB_iff {E : Int} : expB E = true ↔ -16384 ≤ E ∧ E ≤ 16384 := by simp [expB]
theorem expB_not {E : Int} (h : ¬ (-16384 ≤ E ∧ E ≤ 16384)) : expB E = false := by rw [← expB_iff] at h; simpa using h
theorem mayB_exp (m : Nat) (E : Int) : mayB m E = (expB E && decide (m ≤ 1024)) := rfl
theorem ret_bool {a b : Bool} (h : a = b) : Ending.returned (.bool a) = .returned (.bool b) := by rw [h]
theorem isExp_calls (E : Int) (w : World) :
    Calls Tryd.prog 19 #[.int .i64 E] w fun e W' => e = .returned (.bool (expB E)) ∧ w = W' := by
  by_cases h1 : -16384 ≤ E
  · by_cases h2 : E ≤ 16384
    · rw [expB_iff.2 ⟨h1, h2⟩]
      go_enter Tryd.func19, Tryd.ntmps19
      go_wp2
      go_ret
      exact ⟨rfl, rfl⟩
    · rw [expB_not (by omega)]
      go_enter Tryd.func19, Tryd.ntmps19
      go_wp2
      go_ret
      exact ⟨rfl, rfl⟩
  · rw [expB_not (by omega)]
    go_enter Tryd.func19, Tryd.ntmps19
    go_wp2
    go_ret
    exact ⟨rfl, rfl⟩
def chk (m : Nat) (E : Int) : Int := if mayB m E then 0 else 9
theorem check_calls (s : Bool) (a : Option Addr) (m cap : Nat) (E : Int) (w : World) :
    Calls Tryd.prog 11 #[.agg #[.bool s, .slice a m cap, .int .i64 E]] w fun e W' => e = .returned (.int .i64 (chk m E)) ∧ Below w.heap.size w W' := by
  have hB := bel_alloc w (.cells #[.bool s, .slice a m cap, .int .i64 E] 26)
  have G := Cs.new w #[.bool s, .slice a m cap, .int .i64 E] 26
  unfold chk
  rw [mayB_exp]
  by_cases hE : expB E = true
  · by_cases hm : m ≤ 1024
    · have hd : decide (1024 < m) = false := by simp; omega
      have hx := isExp_calls E
      rw [hE] at hx ⊢
      rw [decide_eq_true hm]
      go_enter Tryd.func11, Tryd.ntmps11
      go_wp2_with fail
      generalize (w.alloc (.cells #[.bool s, .slice a m cap, .int .i64 E] 26)) = W0 at hB G ⊢
      have c1 := G.cell (i := 1) rfl
      have c2 := G.cell (i := 2) rfl
      go_wp2_with fail
      refine (hx _).mono ?_
      rintro e w1 ⟨rfl, rfl⟩
      clear hx
      go_wp2
      go_ret
      exact ⟨rfl, hB⟩
    · have hd : decide (1024 < m) = true := by simp; omega
      have hx := isExp_calls E
      rw [hE] at hx ⊢
      rw [decide_eq_false hm]
      go_enter Tryd.func11, Tryd.ntmps11
      go_wp2_with fail
      generalize (w.alloc (.cells #[.bool s, .slice a m cap, .int .i64 E] 26)) = W0 at hB G ⊢
      have c1 := G.cell (i := 1) rfl
      have c2 := G.cell (i := 2) rfl
      go_wp2_with fail
      refine (hx _).mono ?_
      rintro e w1 ⟨rfl, rfl⟩
      clear hx
      go_wp2
      go_ret
      exact ⟨rfl, hB⟩
  · have hE : expB E = false := by simpa using hE
    have hx := isExp_calls E
    rw [hE] at hx ⊢
    go_enter Tryd.func11, Tryd.ntmps11
    go_wp2_with fail
    generalize (w.alloc (.cells #[.bool s, .slice a m cap, .int .i64 E] 26)) = W0 at hB G ⊢
    have c1 := G.cell (i := 1) rfl
    have c2 := G.cell (i := 2) rfl
    go_wp2_with fail
    refine (hx _).mono ?_
    rintro e w1 ⟨rfl, rfl⟩
    clear hx
    go_wp2
    go_ret
    exact ⟨rfl, hB⟩
end Go.Proofs.YtgobclmihppopabDoor

/- dyadic's checkAll: the first error of some numbers. -/
namespace Go.Proofs.YtgobclmihppopabDoor
open Go.RowKit Go.Shelf
attribute [local go_sem ↓] Go.wp_at_zero Go.wp_at_succ

def chks (m : Nat → Nat) (E : Nat → Int) (n : Nat) : Int := if ∀ k, k < n → mayB (m k) (E k) = true then 0 else 9
set_option maxRecDepth 100000 in
set_option maxHeartbeats 1000000 in
theorem checkAll_calls (S n : Nat) (hn : n ≤ 2) (s : Nat → Bool) (a : Nat → Option Addr) (m cap : Nat → Nat) (E : Nat → Int) (w : World) (hS : S < w.heap.size)
    (hc : ∀ k, k < n → w.cell? ⟨S, k * 3, none⟩ = some (.bool (s k)) ∧ w.cell? ⟨S, k * 3 + 1, none⟩ = some (.slice (a k) (m k) (cap k)) ∧ w.cell? ⟨S, k * 3 + 2, none⟩ = some (.int .i64 (E k))) :
    Calls Tryd.prog 17 #[.slice (some ⟨S, 0, none⟩) n n] w fun e W' => e = .returned (.int .i64 (chks m E n)) ∧ Below w.heap.size w W' := by
  have HC := Lib.hid hc
  clear hc
  go_enter Tryd.func17, Tryd.ntmps17
  go_wp2
  go_loopw [8] (fun i wr => ∃ k : Nat, k ≤ n ∧ i = .int .i64 k ∧ Hid (∀ j, j < k → mayB (m j) (E j) = true) ∧ Below w.heap.size w wr) (fun i _ => n - (intOf i).toNat)
  case atStart => exact ⟨0, Nat.zero_le _, rfl, Lib.hid (fun j hj => by omega), Below.refl _ _⟩
  case round =>
    obtain ⟨k, hk, rfl, hall, hB⟩ := hrel
    by_cases hlt : k < n
    · obtain ⟨c0, c1, c2⟩ := HC.out k hlt
      have c0 := (hB.cell (p := ⟨S, k * 3, none⟩) hS).trans c0
      have c1 := (hB.cell (p := ⟨S, k * 3 + 1, none⟩) hS).trans c1
      have c2 := (hB.cell (p := ⟨S, k * 3 + 2, none⟩) hS).trans c2
      have hbx := hB.trans ((bel_alloc wr (.cells #[.bool (s k), .slice (a k) (m k) (cap k), .int .i64 (E k)] 26)).mono hB.size)
      have hch := check_calls (s k) (a k) (m k) (cap k) (E k)
      by_cases hok : mayB (m k) (E k) = true
      · rw [chk, if_pos hok] at hch
        have HK := Lib.hid hok
        clear hok
        go_wp2_with fail
        refine (hch _).mono ?_
        rintro e w1 ⟨rfl, b1⟩
        clear hch
        go_wp2
        go_roundw
        case rel => exact ⟨k + 1, by omega, by go_num, Lib.hid (fun j hj => by
          by_cases e : j = k
          · subst e; exact HK.out
          · exact hall.out j (by omega)), hbx.trans (b1.mono hbx.size)⟩
        case measure => simp [intOf]; omega
      · have hfin : Hid (chks m E n = 9) := Lib.hid (by rw [chks, if_neg fun h => hok (h k hlt)])
        rw [chk, if_neg hok] at hch
        clear hok
        go_wp2_with fail
        refine (hch _).mono ?_
        rintro e w1 ⟨rfl, b1⟩
        clear hch
        go_wp2
        go_ret
        exact ⟨ret_int hfin.out.symm, hbx.trans (b1.mono hbx.size)⟩
    · obtain rfl : k = n := by omega
      have hfin : Hid (chks m E k = 0) := Lib.hid (by rw [chks, if_pos hall.out])
      go_wp2
      go_ret
      exact ⟨ret_int hfin.out.symm, hB⟩
/-- of one number, of two -/
theorem checkAll_one (S : Nat) (s : Bool) (a : Option Addr) (m cap : Nat) (E : Int) (w : World) (G : Cs w S #[.bool s, .slice a m cap, .int .i64 E] 26) :
    Calls Tryd.prog 17 #[.slice (some ⟨S, 0, none⟩) 1 1] w fun e W' => e = .returned (.int .i64 (if mayB m E then 0 else 9)) ∧ Below w.heap.size w W' := by
  refine (checkAll_calls S 1 (by omega) (fun _ => s) (fun _ => a) (fun _ => m) (fun _ => cap) (fun _ => E) w G.lt (fun k hk => ?_)).mono fun e W' ⟨he, hb⟩ => ⟨?_, hb⟩
  · obtain rfl : k = 0 := by omega
    exact ⟨G.cell rfl, G.cell rfl, G.cell rfl⟩
  · rw [he, chks]
    congr 2
    by_cases h : mayB m E = true
    · rw [if_pos h, if_pos fun _ _ => h]
    · rw [if_neg h, if_neg fun h' => h (h' 0 (by omega))]
theorem checkAll_two (S : Nat) (s s' : Bool) (a a' : Option Addr) (m cap m' cap' : Nat) (E E' : Int) (w : World) (G : Cs w S #[.bool s, .slice a m cap, .int .i64 E, .bool s', .slice a' m' cap', .int .i64 E'] 26) :
    Calls Tryd.prog 17 #[.slice (some ⟨S, 0, none⟩) 2 2] w fun e W' => e = .returned (.int .i64 (if mayB m E && mayB m' E' then 0 else 9)) ∧ Below w.heap.size w W' := by
  refine (checkAll_calls S 2 (by omega) (fun k => if k = 0 then s else s') (fun k => if k = 0 then a else a') (fun k => if k = 0 then m else m') (fun k => if k = 0 then cap else cap') (fun k => if k = 0 then E else E') w G.lt (fun k hk => ?_)).mono fun e W' ⟨he, hb⟩ => ⟨?_, hb⟩
  · have : k = 0 ∨ k = 1 := by omega
    rcases this with rfl | rfl
    · exact ⟨G.cell rfl, G.cell rfl, G.cell rfl⟩
    · exact ⟨G.cell rfl, G.cell rfl, G.cell rfl⟩
  · rw [he, chks]
    congr 2
    by_cases h : (mayB m E && mayB m' E') = true
    · rw [if_pos h, if_pos]
      rw [Bool.and_eq_true] at h
      intro k hk
      have : k = 0 ∨ k = 1 := by omega
      rcases this with rfl | rfl
      · exact h.1
      · exact h.2
    · rw [if_neg h, if_neg fun h' => h (by rw [Bool.and_eq_true]; exact ⟨h' 0 (by omega), h' 1 (by omega)⟩)]
end Go.Proofs.YtgobclmihppopabDoor

/- dyadic's told: a number as it is told, or why not. -/
namespace Go.Proofs.YtgobclmihppopabDoor
open Go.RowKit Go.Shelf
attribute [local go_sem ↓] Go.wp_at_zero Go.wp_at_succ

/-- what a call of dyadic answers: the number r, the error R -/
def DP (w : World) (r : Dn) (R : Int) (e : Ending) (W' : World) : Prop :=
  ∃ a m c s n x q, e = .returned (.tuple #[.agg #[.bool s, .slice a m c, .int .i64 x], .int .i64 q]) ∧ New w.heap.size W' (.slice a m c) (digs 18446744073709551616 n) ∧ Below w.heap.size w W' ∧ r = ⟨s, n, x⟩ ∧ R = q
theorem new_zero {n : Nat} {W : World} (h : 0 < W.heap.size) : New n W (.slice none 0 0) (digs 18446744073709551616 0) :=
  ⟨0, .inl ⟨⟨_, _, rfl⟩, digs_zero _⟩, h, .inl rfl⟩
theorem set3 {w W : World} {r : Nat} (hB : Below w.heap.size w W) (hr : w.heap.size ≤ r) (x y z : Value) : Below w.heap.size w (((W.setCell ⟨r, 0, none⟩ x).setCell ⟨r, 1, none⟩ y).setCell ⟨r, 2, none⟩ z) :=
  ((hB.setCell hr _).setCell hr _).setCell hr _
theorem dend {w W : World} {n r : Nat} {ta : Option Addr} {tm tc N : Nat} {s : Bool} {x q : Int} {R : Dn} {Q : Int} (hB : Below w.heap.size w W) (hr : w.heap.size ≤ r) (hn : r < n) (nt : New n W (.slice ta tm tc) (digs 18446744073709551616 N)) (hR : R = ⟨s, N, x⟩) (hQ : Q = q) :
    DP w R Q (.returned (.tuple #[.agg #[.bool s, .slice ta tm tc, .int .i64 x], .int .i64 q])) (((W.setCell ⟨r, 0, none⟩ (.bool s)).setCell ⟨r, 1, none⟩ (.slice ta tm tc)).setCell ⟨r, 2, none⟩ (.int .i64 x)) :=
  ⟨_, _, _, _, _, _, _, rfl, (((nt.put hn _).put hn _).put hn _).mono (by omega), set3 hB hr _ _ _, hR, hQ⟩
theorem dnil {w W : World} {r : Nat} {q : Int} {R : Dn} {Q : Int} (hB : Below w.heap.size w W) (hr : w.heap.size ≤ r) (h0 : 0 < W.heap.size) (hR : R = ⟨false, 0, 0⟩) (hQ : Q = q) :
    DP w R Q (.returned (.tuple #[.agg #[.bool false, .slice none 0 0, .int .i64 0], .int .i64 q])) (((W.setCell ⟨r, 0, none⟩ (.bool false)).setCell ⟨r, 1, none⟩ (.slice none 0 0)).setCell ⟨r, 2, none⟩ (.int .i64 0)) :=
  ⟨_, _, _, _, _, _, _, rfl, new_zero (by simpa [World.setCell] using h0), set3 hB hr _ _ _, hR, hQ⟩
theorem outD_not {r : Dn} (h : ¬ fits r = true) : outD r = ⟨false, 0, 0⟩ := by rw [outD, if_neg h]
theorem outE_not {r : Dn} (h : ¬ fits r = true) : outE r = 4 := by rw [outE, if_neg h]
theorem bits_none {va : Value} {M i : Nat} {w : World} (hA : Num w va M i) (hi : i ≤ 17592186044416) (h : M = 0) :
    Calls Tryd.prog 20 #[va] w fun e W' => e = .returned (.int .i64 0) ∧ Below w.heap.size w W' := by
  subst h
  exact bits_num hA hi
theorem isExp_is (E : Int) (b : Bool) (h : expB E = b) (w : World) :
    Calls Tryd.prog 19 #[.int .i64 E] w fun e W' => e = .returned (.bool b) ∧ w = W' := by
  subst h
  exact isExp_calls E w

set_option maxRecDepth 100000 in
set_option maxHeartbeats 1000000 in
theorem dtold {s : Bool} {a : Option Addr} {m cap N i : Nat} {E : Int} {w : World} (hA : Num w (.slice a m cap) N i) (hi : i ≤ 4096) (hT : TabOk w) (h1 : -32768 ≤ E) (h2 : E ≤ 1048576) :
    Calls Tryd.prog 18 #[.bool s, .slice a m cap, .int .i64 E] w (DP w (outD (tld s N E)) (outE (tld s N E))) := by
  have hB := bel_alloc w (.cells #[.bool false, .slice none 0 0, .int .i64 0] 26)
  have R := Cs.new w #[.bool false, .slice none 0 0, .int .i64 0] 26
  have hsz : w.heap.size + 1 = (w.alloc (.cells #[.bool false, .slice none 0 0, .int .i64 0] 26)).heap.size := by rw [World.size_alloc]
  by_cases h0 : N = 0
  · have hr : Hid (tld s N E = ⟨false, 0, 0⟩) := Lib.hid (by rw [h0, tld_zero])
    have H0 := Lib.hid h0
    clear h0
    go_enter Tryd.func18, Tryd.ntmps18
    go_wp2_with fail
    generalize (w.alloc (.cells #[.bool false, .slice none 0 0, .int .i64 0] 26)) = W0 at hB R hsz ⊢
    refine (bits_none (hA.behind hB) (by omega) H0.out).mono ?_
    rintro e w1 ⟨rfl, b1⟩
    have R := R.behind b1
    have B1 := below_both hB b1
    have r0 := R.cell (i := 0) rfl
    have r1 := R.cell (i := 1) rfl
    have r2 := R.cell (i := 2) rfl
    have f0 := R.f 0
    have f1 := R.f 1
    have f2 := R.f 2
    go_wp2
    exact bodyPost_ret (v := .tuple #[.agg #[.bool false, .slice none 0 0, .int .i64 0], .int .i64 0]) (by simp [results, Tryd.results18, go_sem, r0, r1, r2]) rfl
      (dnil B1 (Nat.le_refl _) (Nat.lt_of_le_of_lt (Nat.zero_le _) R.lt) (by rw [hr.out, outD, if_pos fits_zero]) (by rw [hr.out, outE, if_pos fits_zero]))
  · have hn : ((nbits N : Int) == 0) = false := beq_eq_false_iff_ne.2 (fun h => h0 (nbits_eq_zero (by omega)))
    have hr : Hid (tld s N E = ⟨s, N / 2 ^ tz N, E + tz N⟩) := Lib.hid (tld_pos s h0 E)
    have H0 := Lib.hid h0
    clear h0
    go_enter Tryd.func18, Tryd.ntmps18
    go_wp2_with fail
    generalize (w.alloc (.cells #[.bool false, .slice none 0 0, .int .i64 0] 26)) = W0 at hB R hsz ⊢
    have hA := hA.behind hB
    have hT := hT.behind hB
    refine (bits_num hA (by omega)).mono ?_
    rintro e w1 ⟨rfl, b1⟩
    have hA := hA.behind b1
    have hT := hT.behind b1
    have R := R.behind b1
    have z1 := b1.size
    have B1 := below_both hB b1
    go_wp2_with fail
    refine (zeros_num hA (by omega) hT).mono ?_
    rintro e w2 ⟨z, rfl, ⟨hz1, hz2⟩, b2⟩
    have hA := hA.behind b2
    have R := R.behind b2
    have z2 := b2.size
    have B2 := below_both B1 b2
    have hz := Lib.hid (tz_of hz1)
    clear hz1 hT hn
    have hz3 : z ≤ 262144 := by omega
    go_wp2_with fail
    by_cases hE : expB (E + z) = true
    · refine (isExp_is _ true hE _).mono ?_
      rintro e w3 ⟨rfl, rfl⟩
      have hE2 := expB_iff.1 hE
      have HE := Lib.hid hE
      clear hE
      have hz4 : z ≤ 65536 := by omega
      go_wp2_with fail
      refine (shr_num hA (by omega) hz4).mono ?_
      rintro e w3 ⟨v, rfl, nt, b3⟩
      have R := R.behind b3
      have z3 := b3.size
      have B3 := below_both B2 b3
      have r0 := R.cell (i := 0) rfl
      have r1 := R.cell (i := 1) rfl
      have r2 := R.cell (i := 2) rfl
      have f0 := R.f 0
      have f1 := R.f 1
      have f2 := R.f 2
      obtain ⟨ta, tc, rfl, htc⟩ := nt.slice
      have hD : Hid (N / 2 ^ z = N / 2 ^ tz N) := Lib.hid (by rw [hz.out])
      generalize hq : N / 2 ^ z = Q at nt hD htc ⊢
      have HQ := Lib.hid hq
      clear hq htc
      generalize hl : (digs 18446744073709551616 Q).length = L at nt ⊢
      have HL := Lib.hid hl
      clear hl
      by_cases hm : 1024 < L
      · have hno : Hid (¬ fits (tld s N E) = true) := Lib.hid (by rw [fits_iff, hr.out, ← hD.out]; dsimp only; rw [HL.out]; omega)
        have hm' : decide (1024 < L) = true := decide_eq_true hm
        have hm2 : decide ((1024 : Int) < (L : Int)) = true := decide_eq_true (by omega)
        clear hm
        go_wp2
        exact bodyPost_ret (v := .tuple #[.agg #[.bool false, .slice none 0 0, .int .i64 0], .int .i64 4]) (by simp [results, Tryd.results18, go_sem, r0, r1, r2]) rfl
          (dnil B3 (Nat.le_refl _) (Nat.lt_of_le_of_lt (Nat.zero_le _) R.lt) (outD_not hno.out) (outE_not hno.out))
      · have hyes : Hid (fits (tld s N E) = true) := Lib.hid (by rw [fits_iff, hr.out, ← hD.out]; dsimp only; rw [HL.out, ← hz.out]; omega)
        have hm' : decide (1024 < L) = false := decide_eq_false hm
        have hm2 : decide ((1024 : Int) < (L : Int)) = false := decide_eq_false (by omega)
        clear hm
        go_wp2
        exact bodyPost_ret (v := .tuple #[.agg #[.bool s, .slice ta L tc, .int .i64 (E + z)], .int .i64 0]) (by simp [results, Tryd.results18, go_sem, r0, r1, r2]) rfl
          (dend B3 (Nat.le_refl _) (by omega) nt (by rw [outD, if_pos hyes.out, hr.out, hD.out, ← hz.out]) (by rw [outE, if_pos hyes.out]))
    · have hE' : expB (E + z) = false := by simpa using hE
      refine (isExp_is _ false hE' _).mono ?_
      rintro e w3 ⟨rfl, rfl⟩
      have hno : Hid (¬ fits (tld s N E) = true) := Lib.hid (by rw [expB_iff] at hE; rw [fits_iff, hr.out]; dsimp only; rw [← hz.out]; omega)
      clear hE hE'
      have r0 := R.cell (i := 0) rfl
      have r1 := R.cell (i := 1) rfl
      have r2 := R.cell (i := 2) rfl
      have f0 := R.f 0
      have f1 := R.f 1
      have f2 := R.f 2
      go_wp2
      exact bodyPost_ret (v := .tuple #[.agg #[.bool false, .slice none 0 0, .int .i64 0], .int .i64 4]) (by simp [results, Tryd.results18, go_sem, r0, r1, r2]) rfl
        (dnil B2 (Nat.le_refl _) (Nat.lt_of_le_of_lt (Nat.zero_le _) R.lt) (outD_not hno.out) (outE_not hno.out))
end Go.Proofs.YtgobclmihppopabDoor

/- dyadic's Norm, Abs, Of: a number as it is told, without its sign, made of an int. -/
namespace Go.Proofs.YtgobclmihppopabDoor
open Go.RowKit Go.Shelf
attribute [local go_sem ↓] Go.wp_at_zero Go.wp_at_succ

theorem DP.up {w w1 : World} {r : Dn} {R : Int} {e : Ending} {W' : World} (hb : Below w.heap.size w w1) (h : DP w1 r R e W') : DP w r R e W' := by
  obtain ⟨a, m, c, s, n, x, q, h1, h2, h3, h4, h5⟩ := h
  exact ⟨a, m, c, s, n, x, q, h1, h2.mono hb.size, below_both hb h3, h4, h5⟩
theorem checkAll_one_ok (S : Nat) (s : Bool) (a : Option Addr) (m cap : Nat) (E : Int) (w : World) (G : Cs w S #[.bool s, .slice a m cap, .int .i64 E] 26) (h : mayB m E = true) :
    Calls Tryd.prog 17 #[.slice (some ⟨S, 0, none⟩) 1 1] w fun e W' => e = .returned (.int .i64 0) ∧ Below w.heap.size w W' := by
  have := checkAll_one S s a m cap E w G
  rwa [if_pos h] at this
theorem checkAll_one_no (S : Nat) (s : Bool) (a : Option Addr) (m cap : Nat) (E : Int) (w : World) (G : Cs w S #[.bool s, .slice a m cap, .int .i64 E] 26) (h : mayB m E = false) :
    Calls Tryd.prog 17 #[.slice (some ⟨S, 0, none⟩) 1 1] w fun e W' => e = .returned (.int .i64 9) ∧ Below w.heap.size w W' := by
  have := checkAll_one S s a m cap E w G
  rwa [if_neg (by simp [h])] at this
theorem checkAll_two_ok (S : Nat) (s s' : Bool) (a a' : Option Addr) (m cap m' cap' : Nat) (E E' : Int) (w : World) (G : Cs w S #[.bool s, .slice a m cap, .int .i64 E, .bool s', .slice a' m' cap', .int .i64 E'] 26) (h : (mayB m E && mayB m' E') = true) :
    Calls Tryd.prog 17 #[.slice (some ⟨S, 0, none⟩) 2 2] w fun e W' => e = .returned (.int .i64 0) ∧ Below w.heap.size w W' := by
  have := checkAll_two S s s' a a' m cap m' cap' E E' w G
  rwa [if_pos h] at this
theorem checkAll_two_no (S : Nat) (s s' : Bool) (a a' : Option Addr) (m cap m' cap' : Nat) (E E' : Int) (w : World) (G : Cs w S #[.bool s, .slice a m cap, .int .i64 E, .bool s', .slice a' m' cap', .int .i64 E'] 26) (h : (mayB m E && mayB m' E') = false) :
    Calls Tryd.prog 17 #[.slice (some ⟨S, 0, none⟩) 2 2] w fun e W' => e = .returned (.int .i64 9) ∧ Below w.heap.size w W' := by
  have := checkAll_two S s s' a a' m cap m' cap' E E' w G
  rwa [if_neg (by simp [h])] at this
theorem num_may {w : World} {a : Option Addr} {m cap M i : Nat} (h : Num w (.slice a m cap) M i) (hm : m ≤ 1024) : Num w (.slice a m cap) M 1024 := by
  obtain ⟨xs, h1, h2, h3, h4⟩ := h
  obtain ⟨b, c, e⟩ := h1.slice
  cases e
  exact ⟨xs, h1, h2, h3, hm⟩

theorem dbox2 (w : World) (c d : Array Value) (t u : TypeId) (W : World) (h : W = (w.alloc (.cells c t)).alloc (.cells d u)) : Below w.heap.size w W ∧ Cs W w.heap.size c t ∧ Cs W (w.heap.size + 1) d u ∧ W.heap.size = w.heap.size + 2 := by
  subst h
  have h1 := Cs.new w c t
  have b1 := bel_alloc w (.cells c t)
  have h2 := Cs.new (w.alloc (.cells c t)) d u
  have b2 := bel_alloc (w.alloc (.cells c t)) (.cells d u)
  rw [World.size_alloc] at h2
  exact ⟨below_both b1 b2, h1.behind b2, h2, by rw [World.size_alloc, World.size_alloc]⟩
theorem dbox3 (w : World) (c d f : Array Value) (t u v : TypeId) (W : World) (h : W = ((w.alloc (.cells c t)).alloc (.cells d u)).alloc (.cells f v)) : Below w.heap.size w W ∧ Cs W w.heap.size c t ∧ Cs W (w.heap.size + 1) d u ∧ Cs W (w.heap.size + 2) f v ∧ W.heap.size = w.heap.size + 3 := by
  subst h
  obtain ⟨b1, h1, h2, hz⟩ := dbox2 w c d t u _ rfl
  generalize (w.alloc (.cells c t)).alloc (.cells d u) = X at *
  have h3 := Cs.new X f v
  have b2 := bel_alloc X (.cells f v)
  rw [hz] at h3
  exact ⟨below_both b1 b2, h1.behind b2, h2.behind b2, h3, by rw [World.size_alloc, hz]⟩
theorem dbox1 (w : World) (c : Array Value) (t : TypeId) (W : World) (h : W = w.alloc (.cells c t)) : Below w.heap.size w W ∧ Cs W w.heap.size c t ∧ W.heap.size = w.heap.size + 1 := by
  subst h
  exact ⟨bel_alloc _ _, Cs.new w c t, World.size_alloc ..⟩
set_option maxRecDepth 100000 in
set_option maxHeartbeats 1000000 in
theorem dnorm {s : Bool} {a : Option Addr} {m cap N i : Nat} {E : Int} {w : World} (hA : Num w (.slice a m cap) N i) (hT : TabOk w) :
    Calls Tryd.prog 10 #[.agg #[.bool s, .slice a m cap, .int .i64 E]] w (DP w (resD (mayB m E) (tld s N E)) (resE (mayB m E) (tld s N E))) := by
  have hb := dbox2 w #[.bool s, .slice a m cap, .int .i64 E] #[.bool false, .slice none 0 0, .int .i64 0] 26 26
  have hbs := fun W => dbox1 W #[.bool s, .slice a m cap, .int .i64 E] 26
  by_cases hm : mayB m E = true
  · have hr : resD (mayB m E) (tld s N E) = outD (tld s N E) ∧ resE (mayB m E) (tld s N E) = outE (tld s N E) := by rw [hm]; exact ⟨rfl, rfl⟩
    rw [hr.1, hr.2]
    obtain ⟨e1, e2, e3⟩ := mayB_iff.1 hm
    have hA := num_may hA e3
    have HM := Lib.hid hm
    clear hr hm
    go_enter Tryd.func10, Tryd.ntmps10
    go_wp2_with fail
    obtain ⟨hB, G, R, hsz⟩ := hb _ rfl
    generalize ((w.alloc (.cells #[.bool s, .slice a m cap, .int .i64 E] 26)).alloc (.cells #[.bool false, .slice none 0 0, .int .i64 0] 26)) = W0 at hB G R hsz ⊢
    clear hb
    have c0 := G.cell (i := 0) rfl
    have c1 := G.cell (i := 1) rfl
    have c2 := G.cell (i := 2) rfl
    go_wp2_with fail
    obtain ⟨b1, S, z1⟩ := hbs W0 _ rfl
    generalize (W0.alloc (.cells #[.bool s, .slice a m cap, .int .i64 E] 26)) = W1 at b1 S z1 ⊢
    rw [hsz] at S z1
    refine (checkAll_one_ok _ _ _ _ _ _ _ S HM.out).mono ?_
    rintro e w2 ⟨rfl, b2⟩
    have G := (G.behind b1).behind b2
    have R := (R.behind b1).behind b2
    have B2 := below_both (below_both hB b1) b2
    have hA := hA.behind B2
    have hT := hT.behind B2
    have z2 := b2.size
    clear c0 c1 c2 hbs S
    have c0 := G.cell (i := 0) rfl
    have c1 := G.cell (i := 1) rfl
    have c2 := G.cell (i := 2) rfl
    go_wp2_with fail
    refine (dtold (s := s) hA (by omega) hT (by omega) (by omega)).mono ?_
    rintro e w3 ⟨ta, tm, tc, ts, tn, tx, tq, rfl, nt, b3, hR, hQ⟩
    have R := R.behind b3
    have B3 := below_both B2 b3
    have HR := Lib.hid hR
    have HQ := Lib.hid hQ
    clear hR hQ c0 c1 c2 G
    have r0 := R.cell (i := 0) rfl
    have r1 := R.cell (i := 1) rfl
    have r2 := R.cell (i := 2) rfl
    have f0 := R.f 0
    have f1 := R.f 1
    have f2 := R.f 2
    go_wp2
    exact bodyPost_ret (v := .tuple #[.agg #[.bool ts, .slice ta tm tc, .int .i64 tx], .int .i64 tq]) (by simp [results, Tryd.results10, go_sem, r0, r1, r2]) rfl
      (dend B3 (by omega) (by omega) nt HR.out HQ.out)
  · have hm : mayB m E = false := by simpa using hm
    have hr : resD (mayB m E) (tld s N E) = ⟨false, 0, 0⟩ ∧ resE (mayB m E) (tld s N E) = 9 := by rw [hm]; exact ⟨rfl, rfl⟩
    rw [hr.1, hr.2]
    have HM := Lib.hid hm
    clear hr hm
    go_enter Tryd.func10, Tryd.ntmps10
    go_wp2_with fail
    obtain ⟨hB, G, R, hsz⟩ := hb _ rfl
    generalize ((w.alloc (.cells #[.bool s, .slice a m cap, .int .i64 E] 26)).alloc (.cells #[.bool false, .slice none 0 0, .int .i64 0] 26)) = W0 at hB G R hsz ⊢
    clear hb
    have c0 := G.cell (i := 0) rfl
    have c1 := G.cell (i := 1) rfl
    have c2 := G.cell (i := 2) rfl
    go_wp2_with fail
    obtain ⟨b1, S, z1⟩ := hbs W0 _ rfl
    generalize (W0.alloc (.cells #[.bool s, .slice a m cap, .int .i64 E] 26)) = W1 at b1 S z1 ⊢
    rw [hsz] at S z1
    refine (checkAll_one_no _ _ _ _ _ _ _ S HM.out).mono ?_
    rintro e w2 ⟨rfl, b2⟩
    have R := (R.behind b1).behind b2
    have B2 := below_both (below_both hB b1) b2
    have z2 := b2.size
    clear c0 c1 c2 hbs S G
    have r0 := R.cell (i := 0) rfl
    have r1 := R.cell (i := 1) rfl
    have r2 := R.cell (i := 2) rfl
    have f0 := R.f 0
    have f1 := R.f 1
    have f2 := R.f 2
    go_wp2
    exact bodyPost_ret (v := .tuple #[.agg #[.bool false, .slice none 0 0, .int .i64 0], .int .i64 9]) (by simp [results, Tryd.results10, go_sem, r0, r1, r2]) rfl
      (dnil B2 (by omega) (by omega) rfl rfl)
end Go.Proofs.YtgobclmihppopabDoor
