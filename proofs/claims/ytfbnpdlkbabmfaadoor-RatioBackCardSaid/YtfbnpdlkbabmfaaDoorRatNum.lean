/- Fractions as they are told: plain numbers. No program is named here. -/
import Derived.Test.YtfbnpdlkbabmfaaDoorNum
import Derived.Test.YtfbnpdlkbabmfaaDoorDyBox
namespace Go.Proofs.YtfbnpdlkbabmfaaDoor

/-- two fractions that are one number -/
def Eqv (z : Int) (d : Nat) (z' : Int) (d' : Nat) : Prop := z * d' = z' * d
/-- a fraction as it is told: both parts by their greatest common divisor -/
def rz (z : Int) (d : Nat) : Int := z / (Nat.gcd z.natAbs d : Nat)
def rd (z : Int) (d : Nat) : Nat := d / Nat.gcd z.natAbs d
theorem Int.natCast_dvd_of_natAbs {g : Nat} {z : Int} (h : g ∣ z.natAbs) : (g : Int) ∣ z := Int.dvd_natAbs.1 (Int.natCast_dvd_natCast.2 h)
theorem rg_pos (z : Int) {d : Nat} (hd : d ≠ 0) : 0 < Nat.gcd z.natAbs d := Nat.gcd_pos_of_pos_right _ (Nat.pos_of_ne_zero hd)
theorem rd_mul (z : Int) (d : Nat) : rd z d * Nat.gcd z.natAbs d = d := Nat.div_mul_cancel (Nat.gcd_dvd_right _ _)
theorem rz_mul (z : Int) (d : Nat) : rz z d * (Nat.gcd z.natAbs d : Nat) = z := Int.ediv_mul_cancel (Int.natCast_dvd_of_natAbs (Nat.gcd_dvd_left _ _))
theorem rz_abs (z : Int) (d : Nat) : (rz z d).natAbs = z.natAbs / Nat.gcd z.natAbs d := by
  have h := congrArg Int.natAbs (rz_mul z d)
  rw [Int.natAbs_mul, Int.natAbs_natCast] at h
  by_cases h0 : Nat.gcd z.natAbs d = 0
  · rw [h0]
    have hz : z.natAbs = 0 := (Nat.gcd_eq_zero_iff.1 h0).1
    have : z = 0 := by omega
    subst this
    simp [rz]
  · exact (Nat.div_eq_of_eq_mul_left (by omega) h.symm).symm
theorem rd_pos (z : Int) {d : Nat} (hd : d ≠ 0) : rd z d ≠ 0 := by
  intro h
  have := rd_mul z d
  rw [h, Nat.zero_mul] at this
  exact hd this.symm
theorem r_eqv (z : Int) (d : Nat) : Eqv (rz z d) (rd z d) z d := by
  unfold Eqv
  have h1 := rz_mul z d
  have h2 := rd_mul z d
  generalize rz z d = a at h1 ⊢
  generalize rd z d = b at h2 ⊢
  generalize Nat.gcd z.natAbs d = g at h1 h2
  rw [← h2, ← h1, Int.natCast_mul, Int.mul_assoc, Int.mul_comm (b : Int)]
theorem r_coprime (z : Int) {d : Nat} (hd : d ≠ 0) : Nat.gcd (rz z d).natAbs (rd z d) = 1 := by
  rw [rz_abs, rd]
  have := Nat.gcd_div_gcd_div_gcd_of_pos_right (n := z.natAbs) (m := d) (Nat.pos_of_ne_zero hd)
  exact this
theorem Eqv.symm {z z' : Int} {d d' : Nat} (h : Eqv z d z' d') : Eqv z' d' z d := Eq.symm h
theorem Eqv.trans {z z' z'' : Int} {d d' d'' : Nat} (hd : d' ≠ 0) (h1 : Eqv z d z' d') (h2 : Eqv z' d' z'' d'') : Eqv z d z'' d'' := by
  unfold Eqv at *
  have hd' : (d' : Int) ≠ 0 := by omega
  have e : (z * d'') * d' = (z'' * d) * d' := by
    rw [Int.mul_right_comm, h1, Int.mul_right_comm z' (d : Int), h2, Int.mul_right_comm]
  exact Int.eq_of_mul_eq_mul_right hd' e
/-- a fraction is told in one way -/
theorem r_one {z z' : Int} {d d' : Nat} (hd : d ≠ 0) (hd' : d' ≠ 0) (h : Eqv z d z' d') (h1 : Nat.gcd z.natAbs d = 1) (h2 : Nat.gcd z'.natAbs d' = 1) : z = z' ∧ d = d' := by
  unfold Eqv at h
  have ha := congrArg Int.natAbs h
  rw [Int.natAbs_mul, Int.natAbs_mul, Int.natAbs_natCast, Int.natAbs_natCast] at ha
  have e1 : d ∣ d' := by
    have : d ∣ z.natAbs * d' := ⟨z'.natAbs, by rw [ha, Nat.mul_comm]⟩
    exact Nat.Coprime.dvd_of_dvd_mul_left (Nat.Coprime.symm h1) this
  have e2 : d' ∣ d := by
    have : d' ∣ z'.natAbs * d := ⟨z.natAbs, by rw [← ha, Nat.mul_comm]⟩
    exact Nat.Coprime.dvd_of_dvd_mul_left (Nat.Coprime.symm h2) this
  have e := Nat.dvd_antisymm e1 e2
  subst e
  exact ⟨Int.eq_of_mul_eq_mul_right (by omega) h, rfl⟩
theorem rd_le (z : Int) (d : Nat) : rd z d ≤ d := Nat.div_le_self _ _
theorem rz_le (z : Int) (d : Nat) : (rz z d).natAbs ≤ z.natAbs := by rw [rz_abs]; exact Nat.div_le_self _ _
theorem rz_sign (z : Int) {d : Nat} (hd : d ≠ 0) : (rz z d < 0 ↔ z < 0) ∧ (rz z d = 0 ↔ z = 0) := by
  have h := rz_mul z d
  have hg := rg_pos z hd
  generalize rz z d = a at h ⊢
  generalize Nat.gcd z.natAbs d = g at h hg
  have hg' : (0 : Int) < g := by omega
  constructor
  · constructor
    · intro ha
      rw [← h]
      exact Int.mul_neg_of_neg_of_pos ha hg'
    · intro hz
      rcases Int.lt_or_le a 0 with h1 | h1
      · exact h1
      · have := Int.mul_nonneg h1 (Int.le_of_lt hg')
        omega
  · constructor
    · intro ha; rw [← h, ha, Int.zero_mul]
    · intro hz
      rw [hz] at h
      rcases Int.mul_eq_zero.1 h with h1 | h1
      · exact h1
      · omega
end Go.Proofs.YtfbnpdlkbabmfaaDoor

/- ratio's Check, checkBoth: may fractions be? -/
namespace Go.Proofs.YtfbnpdlkbabmfaaDoor
open Go.RowKit Go.Shelf
attribute [local go_sem ↓] Go.wp_at_zero Go.wp_at_succ

theorem Num.more {w : World} {v : Value} {N i j : Nat} (h : Num w v N i) (hij : i ≤ j) : Num w v N j := by
  obtain ⟨xs, h1, h2, h3, h4⟩ := h
  exact ⟨xs, h1, h2, h3, by omega⟩
/-- Check's answer -/
def rck (D : Nat) : Int := if D = 0 then 9 else 0
theorem nbits_eq0 (D : Nat) : ((nbits D : Int) == 0) = decide (D = 0) := by
  by_cases h : D = 0
  · subst h; rfl
  · rw [decide_eq_false h]
    exact beq_eq_false_iff_ne.2 (fun e => h (nbits_eq_zero (by omega)))
theorem bits_may {va : Value} {D i : Nat} {w : World} (hA : Num w va D i) (hi : i ≤ 17592186044416) (h : D ≠ 0) :
    Calls Tryd.prog 14 #[va] w fun e W' => ∃ n : Nat, e = .returned (.int .i64 (n : Int)) ∧ ((n : Int) == 0) = false ∧ Below w.heap.size w W' :=
  (bits_num hA hi).mono fun e W' ⟨h1, h2⟩ => ⟨_, h1, by rw [nbits_eq0, decide_eq_false h], h2⟩
set_option maxRecDepth 100000 in
theorem rcheck {s : Bool} {a : Option Addr} {m c : Nat} {b : Option Addr} {n k D j : Nat} {w : World} (hD : Num w (.slice b n k) D j) (hj : j ≤ 17592186044416) :
    Calls Tryd.prog 27 #[.agg #[.bool s, .slice a m c, .slice b n k]] w fun e W' => e = .returned (.int .i64 (rck D)) ∧ Below w.heap.size w W' := by
  have hb := dbox1 w #[.bool s, .slice a m c, .slice b n k] 26
  unfold rck
  by_cases h0 : D = 0
  · rw [if_pos h0]
    have H0 := Lib.hid h0
    clear h0
    go_enter Tryd.func27, Tryd.ntmps27
    go_wp2_with fail
    obtain ⟨hB, G, hsz⟩ := hb _ rfl
    generalize (w.alloc (.cells #[.bool s, .slice a m c, .slice b n k] 26)) = W0 at hB G hsz ⊢
    clear hb
    have c2 := G.cell (i := 2) rfl
    go_wp2_with fail
    refine (bits_none (hD.behind hB) hj H0.out).mono ?_
    rintro e w1 ⟨rfl, b1⟩
    go_wp2
    go_ret
    exact ⟨rfl, below_both hB b1⟩
  · rw [if_neg h0]
    have H0 := Lib.hid h0
    clear h0
    go_enter Tryd.func27, Tryd.ntmps27
    go_wp2_with fail
    obtain ⟨hB, G, hsz⟩ := hb _ rfl
    generalize (w.alloc (.cells #[.bool s, .slice a m c, .slice b n k] 26)) = W0 at hB G hsz ⊢
    clear hb
    have c2 := G.cell (i := 2) rfl
    go_wp2_with fail
    refine (bits_may (hD.behind hB) hj H0.out).mono ?_
    rintro e w1 ⟨q, rfl, hq, b1⟩
    go_wp2
    go_ret
    exact ⟨rfl, below_both hB b1⟩
end Go.Proofs.YtfbnpdlkbabmfaaDoor

/- ratio's checkBoth: may both fractions be? -/
namespace Go.Proofs.YtfbnpdlkbabmfaaDoor
open Go.RowKit Go.Shelf
attribute [local go_sem ↓] Go.wp_at_zero Go.wp_at_succ

theorem rcheck_no {s : Bool} {a : Option Addr} {m c : Nat} {b : Option Addr} {n k D j : Nat} {w : World} (hD : Num w (.slice b n k) D j) (hj : j ≤ 17592186044416) (h : D = 0) :
    Calls Tryd.prog 27 #[.agg #[.bool s, .slice a m c, .slice b n k]] w fun e W' => e = .returned (.int .i64 9) ∧ Below w.heap.size w W' := by
  have := rcheck (s := s) (a := a) (m := m) (c := c) hD hj
  rwa [rck, if_pos h] at this
theorem rcheck_ok {s : Bool} {a : Option Addr} {m c : Nat} {b : Option Addr} {n k D j : Nat} {w : World} (hD : Num w (.slice b n k) D j) (hj : j ≤ 17592186044416) (h : D ≠ 0) :
    Calls Tryd.prog 27 #[.agg #[.bool s, .slice a m c, .slice b n k]] w fun e W' => e = .returned (.int .i64 0) ∧ Below w.heap.size w W' := by
  have := rcheck (s := s) (a := a) (m := m) (c := c) hD hj
  rwa [rck, if_neg h] at this
set_option maxRecDepth 100000 in
set_option maxHeartbeats 1000000 in
theorem checkBoth_ok {s s' : Bool} {a a' b b' : Option Addr} {m c m' c' n k n' k' D D' j j' : Nat} {w : World} (hD : Num w (.slice b n k) D j) (hD' : Num w (.slice b' n' k') D' j') (hj : j ≤ 17592186044416) (hj' : j' ≤ 17592186044416) (H0 : Hid (D ≠ 0)) (H1 : Hid (D' ≠ 0)) :
    Calls Tryd.prog 29 #[.agg #[.bool s, .slice a m c, .slice b n k, .bool s', .slice a' m' c', .slice b' n' k']] w fun e W' => e = .returned (.int .i64 0) ∧ Below w.heap.size w W' := by
  have hb := dbox1 w #[.bool s, .slice a m c, .slice b n k, .bool s', .slice a' m' c', .slice b' n' k'] 55
  go_enter Tryd.func29, Tryd.ntmps29
  go_wp2
  obtain ⟨hB0, G, hsz⟩ := hb _ rfl
  generalize (w.alloc (.cells #[.bool s, .slice a m c, .slice b n k, .bool s', .slice a' m' c', .slice b' n' k'] 55)) = W0 at hB0 G hsz ⊢
  clear hb G hsz
  have x0 : ∀ w : World, (Instr.index 55 (.agg #[.bool s, .slice a m c, .slice b n k, .bool s', .slice a' m' c', .slice b' n' k']) (.int .i64 0)).run Tryd.prog w = .ok (.agg #[.bool s, .slice a m c, .slice b n k]) w := fun _ => by kernel_rfl
  have x1 : ∀ w : World, (Instr.index 55 (.agg #[.bool s, .slice a m c, .slice b n k, .bool s', .slice a' m' c', .slice b' n' k']) (.int .i64 1)).run Tryd.prog w = .ok (.agg #[.bool s', .slice a' m' c', .slice b' n' k']) w := fun _ => by kernel_rfl
  go_loopw [7] (fun i wr => ∃ q : Nat, q ≤ 2 ∧ i = .int .i64 q ∧ Below w.heap.size w wr) (fun i _ => 2 - (intOf i).toNat)
  case atStart => exact ⟨0, by omega, rfl, hB0⟩
  case round =>
    obtain ⟨q, hq, rfl, hB⟩ := hrel
    clear hB0
    have hq : q = 0 ∨ q = 1 ∨ q = 2 := by omega
    rcases hq with rfl | rfl | rfl
    · have hbx := (dbox1 wr #[.bool s, .slice a m c, .slice b n k] 26 _ rfl).1
      have hbx := hB.trans (hbx.mono hB.size)
      have hN := hD.behind hbx
      go_wp2_with fail
      generalize (wr.alloc (.cells #[.bool s, .slice a m c, .slice b n k] 26)) = W1 at hbx hN ⊢
      refine (rcheck_ok hN hj H0.out).mono ?_
      rintro e w1 ⟨rfl, b1⟩
      have hbx := hbx.trans (b1.mono hbx.size)
      clear b1 hN
      go_wp2
      go_roundw
      case rel => exact ⟨1, by omega, rfl, hbx⟩
      case measure => simp [intOf]
    · have hbx := (dbox1 wr #[.bool s', .slice a' m' c', .slice b' n' k'] 26 _ rfl).1
      have hbx := hB.trans (hbx.mono hB.size)
      have hN := hD'.behind hbx
      go_wp2_with fail
      generalize (wr.alloc (.cells #[.bool s', .slice a' m' c', .slice b' n' k'] 26)) = W1 at hbx hN ⊢
      refine (rcheck_ok hN hj' H1.out).mono ?_
      rintro e w1 ⟨rfl, b1⟩
      have hbx := hbx.trans (b1.mono hbx.size)
      clear b1 hN
      go_wp2
      go_roundw
      case rel => exact ⟨2, by omega, rfl, hbx⟩
      case measure => simp [intOf]
    · go_wp2
      go_ret
      exact ⟨rfl, hB⟩
set_option maxRecDepth 100000 in
set_option maxHeartbeats 1000000 in
theorem checkBoth_no1 {s s' : Bool} {a a' b b' : Option Addr} {m c m' c' n k n' k' D D' j j' : Nat} {w : World} (hD : Num w (.slice b n k) D j) (hD' : Num w (.slice b' n' k') D' j') (hj : j ≤ 17592186044416) (hj' : j' ≤ 17592186044416) (H0 : Hid (D ≠ 0)) (H1 : Hid (D' = 0)) :
    Calls Tryd.prog 29 #[.agg #[.bool s, .slice a m c, .slice b n k, .bool s', .slice a' m' c', .slice b' n' k']] w fun e W' => e = .returned (.int .i64 9) ∧ Below w.heap.size w W' := by
  have hb := dbox1 w #[.bool s, .slice a m c, .slice b n k, .bool s', .slice a' m' c', .slice b' n' k'] 55
  go_enter Tryd.func29, Tryd.ntmps29
  go_wp2
  obtain ⟨hB0, G, hsz⟩ := hb _ rfl
  generalize (w.alloc (.cells #[.bool s, .slice a m c, .slice b n k, .bool s', .slice a' m' c', .slice b' n' k'] 55)) = W0 at hB0 G hsz ⊢
  clear hb G hsz
  have x0 : ∀ w : World, (Instr.index 55 (.agg #[.bool s, .slice a m c, .slice b n k, .bool s', .slice a' m' c', .slice b' n' k']) (.int .i64 0)).run Tryd.prog w = .ok (.agg #[.bool s, .slice a m c, .slice b n k]) w := fun _ => by kernel_rfl
  have x1 : ∀ w : World, (Instr.index 55 (.agg #[.bool s, .slice a m c, .slice b n k, .bool s', .slice a' m' c', .slice b' n' k']) (.int .i64 1)).run Tryd.prog w = .ok (.agg #[.bool s', .slice a' m' c', .slice b' n' k']) w := fun _ => by kernel_rfl
  go_loopw [7] (fun i wr => ∃ q : Nat, q ≤ 1 ∧ i = .int .i64 q ∧ Below w.heap.size w wr) (fun i _ => 2 - (intOf i).toNat)
  case atStart => exact ⟨0, by omega, rfl, hB0⟩
  case round =>
    obtain ⟨q, hq, rfl, hB⟩ := hrel
    clear hB0
    have hq : q = 0 ∨ q = 1 := by omega
    rcases hq with rfl | rfl
    · have hbx := (dbox1 wr #[.bool s, .slice a m c, .slice b n k] 26 _ rfl).1
      have hbx := hB.trans (hbx.mono hB.size)
      have hN := hD.behind hbx
      go_wp2_with fail
      generalize (wr.alloc (.cells #[.bool s, .slice a m c, .slice b n k] 26)) = W1 at hbx hN ⊢
      refine (rcheck_ok hN hj H0.out).mono ?_
      rintro e w1 ⟨rfl, b1⟩
      have hbx := hbx.trans (b1.mono hbx.size)
      clear b1 hN
      go_wp2
      go_roundw
      case rel => exact ⟨1, by omega, rfl, hbx⟩
      case measure => simp [intOf]
    · have hbx := (dbox1 wr #[.bool s', .slice a' m' c', .slice b' n' k'] 26 _ rfl).1
      have hbx := hB.trans (hbx.mono hB.size)
      have hN := hD'.behind hbx
      go_wp2_with fail
      generalize (wr.alloc (.cells #[.bool s', .slice a' m' c', .slice b' n' k'] 26)) = W1 at hbx hN ⊢
      refine (rcheck_no hN hj' H1.out).mono ?_
      rintro e w1 ⟨rfl, b1⟩
      have hbx := hbx.trans (b1.mono hbx.size)
      clear b1 hN
      go_wp2
      go_ret
      exact ⟨rfl, hbx⟩
set_option maxRecDepth 100000 in
set_option maxHeartbeats 1000000 in
theorem checkBoth_no0 {s s' : Bool} {a a' b b' : Option Addr} {m c m' c' n k n' k' D D' j j' : Nat} {w : World} (hD : Num w (.slice b n k) D j) (hD' : Num w (.slice b' n' k') D' j') (hj : j ≤ 17592186044416) (hj' : j' ≤ 17592186044416) (H0 : Hid (D = 0)) :
    Calls Tryd.prog 29 #[.agg #[.bool s, .slice a m c, .slice b n k, .bool s', .slice a' m' c', .slice b' n' k']] w fun e W' => e = .returned (.int .i64 9) ∧ Below w.heap.size w W' := by
  have hb := dbox1 w #[.bool s, .slice a m c, .slice b n k, .bool s', .slice a' m' c', .slice b' n' k'] 55
  go_enter Tryd.func29, Tryd.ntmps29
  go_wp2
  obtain ⟨hB0, G, hsz⟩ := hb _ rfl
  generalize (w.alloc (.cells #[.bool s, .slice a m c, .slice b n k, .bool s', .slice a' m' c', .slice b' n' k'] 55)) = W0 at hB0 G hsz ⊢
  clear hb G hsz
  have x0 : ∀ w : World, (Instr.index 55 (.agg #[.bool s, .slice a m c, .slice b n k, .bool s', .slice a' m' c', .slice b' n' k']) (.int .i64 0)).run Tryd.prog w = .ok (.agg #[.bool s, .slice a m c, .slice b n k]) w := fun _ => by kernel_rfl
  have x1 : ∀ w : World, (Instr.index 55 (.agg #[.bool s, .slice a m c, .slice b n k, .bool s', .slice a' m' c', .slice b' n' k']) (.int .i64 1)).run Tryd.prog w = .ok (.agg #[.bool s', .slice a' m' c', .slice b' n' k']) w := fun _ => by kernel_rfl
  go_loopw [7] (fun i wr => ∃ q : Nat, q ≤ 0 ∧ i = .int .i64 q ∧ Below w.heap.size w wr) (fun i _ => 2 - (intOf i).toNat)
  case atStart => exact ⟨0, by omega, rfl, hB0⟩
  case round =>
    obtain ⟨q, hq, rfl, hB⟩ := hrel
    clear hB0
    obtain rfl : q = 0 := by omega
    have hbx := (dbox1 wr #[.bool s, .slice a m c, .slice b n k] 26 _ rfl).1
    have hbx := hB.trans (hbx.mono hB.size)
    have hN := hD.behind hbx
    go_wp2_with fail
    generalize (wr.alloc (.cells #[.bool s, .slice a m c, .slice b n k] 26)) = W1 at hbx hN ⊢
    refine (rcheck_no hN hj H0.out).mono ?_
    rintro e w1 ⟨rfl, b1⟩
    have hbx := hbx.trans (b1.mono hbx.size)
    clear b1 hN
    go_wp2
    go_ret
    exact ⟨rfl, hbx⟩
theorem checkBoth_no {s s' : Bool} {a a' b b' : Option Addr} {m c m' c' n k n' k' D D' j j' : Nat} {w : World} (hD : Num w (.slice b n k) D j) (hD' : Num w (.slice b' n' k') D' j') (hj : j ≤ 17592186044416) (hj' : j' ≤ 17592186044416) (h : D = 0 ∨ D' = 0) :
    Calls Tryd.prog 29 #[.agg #[.bool s, .slice a m c, .slice b n k, .bool s', .slice a' m' c', .slice b' n' k']] w fun e W' => e = .returned (.int .i64 9) ∧ Below w.heap.size w W' := by
  by_cases h0 : D = 0
  · exact checkBoth_no0 hD hD' hj hj' (Lib.hid h0)
  · exact checkBoth_no1 hD hD' hj hj' (Lib.hid h0) (Lib.hid (h.resolve_left h0))
end Go.Proofs.YtfbnpdlkbabmfaaDoor

/- ratio's level: the Nums of two fractions, brought to one Den. -/
namespace Go.Proofs.YtfbnpdlkbabmfaaDoor
open Go.RowKit Go.Shelf
attribute [local go_sem ↓] Go.wp_at_zero Go.wp_at_succ

theorem WNew.mono {n n' : Nat} {W : World} {v : Value} {z : Int} (h : WNew n W v z) (hn : n' ≤ n) : WNew n' W v z := by
  obtain ⟨u, e, h⟩ := h
  exact ⟨u, e, h.mono hn⟩
theorem WNew.put2 {n : Nat} {W : World} {v : Value} {z : Int} (h : WNew n W v z) {p p' : Addr} (hp : p.block < n) (hp' : p'.block < n) {u u' : Value} : WNew n ((W.setCell p u).setCell p' u') v z := by
  obtain ⟨x, e, h⟩ := h
  exact ⟨x, e, (h.put hp u).put hp' u'⟩
/-- two whole numbers in an array, told -/
def LP (w : World) (x y : Int) (e : Ending) (W' : World) : Prop := ∃ p pa pl pc q qa ql qc, e = .returned (.agg #[.bool p, .slice pa pl pc, .bool q, .slice qa ql qc]) ∧ WNew w.heap.size W' (.agg #[.bool p, .slice pa pl pc]) x ∧ WNew w.heap.size W' (.agg #[.bool q, .slice qa ql qc]) y ∧ Below w.heap.size w W'
set_option maxRecDepth 100000 in
set_option maxHeartbeats 2000000 in
theorem rlevel {s s' : Bool} {a a' b b' : Option Addr} {m c m' c' n k n' k' M M' D D' i i' j j' : Nat} {w : World} (hA : Num w (.slice a m c) M i) (hD : Num w (.slice b n k) D j) (hA' : Num w (.slice a' m' c') M' i') (hD' : Num w (.slice b' n' k') D' j') (hij : i + j' ≤ 17592186044416) (hij' : i' + j ≤ 17592186044416) :
    Calls Tryd.prog 30 #[.agg #[.bool s, .slice a m c, .slice b n k, .bool s', .slice a' m' c', .slice b' n' k']] w (LP w (wn s M * D') (wn s' M' * D)) := by
  have hb := dbox3 w #[.bool s, .slice a m c, .slice b n k, .bool s', .slice a' m' c', .slice b' n' k'] #[.bool false, .slice none 0 0, .bool false, .slice none 0 0] #[.bool false, .slice none 0 0, .bool false, .slice none 0 0] 55 57 57
  go_enter Tryd.func30, Tryd.ntmps30
  go_wp2_with fail
  obtain ⟨hB0, GA, GR, GT, hsz⟩ := hb _ rfl
  generalize (((w.alloc (.cells #[.bool s, .slice a m c, .slice b n k, .bool s', .slice a' m' c', .slice b' n' k'] 55)).alloc (.cells #[.bool false, .slice none 0 0, .bool false, .slice none 0 0] 57)).alloc (.cells #[.bool false, .slice none 0 0, .bool false, .slice none 0 0] 57)) = W0 at hB0 GA GR GT hsz ⊢
  clear hb
  have c0 := GA.cell (i := 0) rfl
  have c1 := GA.cell (i := 1) rfl
  have c2 := GA.cell (i := 2) rfl
  have c3 := GA.cell (i := 3) rfl
  have c4 := GA.cell (i := 4) rfl
  have c5 := GA.cell (i := 5) rfl
  go_wp2
  clear c0 c1 c2 c3 c4 c5
  have x0 : ∀ w : World, (Instr.index 55 (.agg #[.bool s, .slice a m c, .slice b n k, .bool s', .slice a' m' c', .slice b' n' k']) (.int .i64 0)).run Tryd.prog w = .ok (.agg #[.bool s, .slice a m c, .slice b n k]) w := fun _ => by kernel_rfl
  have x1 : ∀ w : World, (Instr.index 55 (.agg #[.bool s, .slice a m c, .slice b n k, .bool s', .slice a' m' c', .slice b' n' k']) (.int .i64 1)).run Tryd.prog w = .ok (.agg #[.bool s', .slice a' m' c', .slice b' n' k']) w := fun _ => by kernel_rfl
  go_loopw [7] (fun i wr => ∃ (q : Nat) (z : Int) (p : Bool) (pa : Option Addr) (pl pc : Nat) (r : Bool) (qa : Option Addr) (ql qc : Nat), q ≤ 2 ∧ z = q ∧ i = .int .i64 z ∧ Cs wr w.heap.size #[.bool s, .slice a m c, .slice b n k, .bool s', .slice a' m' c', .slice b' n' k'] 55 ∧ Cs wr (w.heap.size + 1) #[.bool false, .slice none 0 0, .bool false, .slice none 0 0] 57 ∧ Cs wr (w.heap.size + 2) #[.bool p, .slice pa pl pc, .bool r, .slice qa ql qc] 57 ∧ Below w.heap.size w wr ∧ Hid ((1 ≤ q → WNew (w.heap.size + 3) wr (.agg #[.bool p, .slice pa pl pc]) (wn s M * D')) ∧ (2 ≤ q → WNew (w.heap.size + 3) wr (.agg #[.bool r, .slice qa ql qc]) (wn s' M' * D)))) (fun i _ => 2 - (intOf i).toNat)
  case atStart => exact ⟨0, _, _, _, _, _, _, _, _, _, by omega, rfl, rfl, GA, GR, GT, hB0, Lib.hid ⟨fun h => by omega, fun h => by omega⟩⟩
  case round =>
    obtain ⟨q, z, p, pa, pl, pc, r, qa, ql, qc, hq, hz, rfl, GA, GR, GT, hB, h0⟩ := hrel
    have h0 := h0.out
    have hgr : w.heap.size + 3 ≤ wr.heap.size := GT.lt
    clear hB0
    have hq : q = 0 ∨ q = 1 ∨ q = 2 := by omega
    rcases hq with rfl | rfl | rfl
    · obtain rfl : z = 0 := hz
      have hbx := dbox1 wr #[.bool s, .slice a m c, .slice b n k] 26 _ rfl
      go_wp2_with fail
      obtain ⟨b1, G1, z1⟩ := hbx
      generalize (wr.alloc (.cells #[.bool s, .slice a m c, .slice b n k] 26)) = W1 at b1 G1 z1 ⊢
      generalize wr.heap.size = g at G1 z1 hgr ⊢
      have bd := (Below.refl W1.heap.size W1).drew
      have G1 := G1.behind bd
      have GA := (GA.behind b1).behind bd
      have GT := (GT.behind b1).behind bd
      have GR := (GR.behind b1).behind bd
      have B2 := hB.trans ((below_both b1 bd).mono hB.size)
      have hX := hA.behind B2
      have hY := hD'.behind B2
      have zX : Wv W1.drew s a m c (wn s M) i := ⟨_, hX, rfl⟩
      have zY : Wv W1.drew false b' n' k' ((D' : Nat) : Int) j' := ⟨_, hY, by simp [wn]⟩
      
      clear b1 bd hX hY hB
      have c0 := G1.cell (i := 0) rfl
      have c1 := G1.cell (i := 1) rfl
      have c5 := GA.cell (i := 5) rfl
      have hT1 := GT.lt
      have hw : IntKind.i64.wrap (1 - 0) = 1 := by rw [IntWalk.i64_in _ (by omega)] <;> rfl
      have hw2 : IntKind.i64.wrap 1 = 1 := IntWalk.i64_in _ (by omega)
      go_region_held3 (fun w' => w'.cell? ⟨g, 0, none⟩ = some (.bool s) ∧ w'.cell? ⟨g, 1, none⟩ = some (.slice a m c) ∧ w'.cell? ⟨w.heap.size, 5, none⟩ = some (.slice b' n' k')) (first | exact ⟨G1.cell rfl, G1.cell rfl, GA.cell rfl⟩ | exact ⟨((G1.put (by simp <;> omega) _).put (by simp <;> omega) _).cell rfl, ((G1.put (by simp <;> omega) _).put (by simp <;> omega) _).cell rfl, ((GA.put (by simp <;> omega) _).put (by simp <;> omega) _).cell rfl⟩ | (refine ⟨?_, ?_, ?_⟩ <;> go_keep))
        (first
          | (go_at_call 16; (with_reducible refine (zmul zX zY hij).mono ?_); rintro e w3 ⟨f, fa, fl, fc, rfl, -, nf, b3⟩; have G1 := G1.behind b3; have GA := GA.behind b3; have GR := GR.behind b3; have GT := GT.behind b3; have B3 := B2.trans (b3.mono B2.size); have nf := nf.mono (show w.heap.size + 3 ≤ _ by omega); have d0 := GT.cell (i := 0) rfl; have d1 := GT.cell (i := 1) rfl; have f0 := GT.f 0; have f1 := GT.f 1; clear b3))
      go_wp2
      go_roundw
      case rel => exact ⟨1, _, _, _, _, _, _, _, _, _, by omega, rfl, rfl, GA.put (by show w.heap.size ≠ w.heap.size + 2; omega) _ |>.put (by show w.heap.size ≠ w.heap.size + 2; omega) _, GR.put (by show w.heap.size + 1 ≠ w.heap.size + 2; omega) _ |>.put (by show w.heap.size + 1 ≠ w.heap.size + 2; omega) _, (GT.set 0 _).set 1 _, (B3.setCell (by show _ ≤ w.heap.size + 2; omega) _).setCell (by show _ ≤ w.heap.size + 2; omega) _, Lib.hid ⟨fun _ => nf.put2 (by show w.heap.size + 2 < _; omega) (by show w.heap.size + 2 < _; omega), fun _ => by omega⟩⟩
      case measure => simp [intOf]
    · obtain rfl : z = 1 := hz
      have hbx := dbox1 wr #[.bool s', .slice a' m' c', .slice b' n' k'] 26 _ rfl
      go_wp2_with fail
      obtain ⟨b1, G1, z1⟩ := hbx
      generalize (wr.alloc (.cells #[.bool s', .slice a' m' c', .slice b' n' k'] 26)) = W1 at b1 G1 z1 ⊢
      generalize wr.heap.size = g at G1 z1 hgr ⊢
      have bd := (Below.refl W1.heap.size W1).drew
      have G1 := G1.behind bd
      have GA := (GA.behind b1).behind bd
      have GT := (GT.behind b1).behind bd
      have GR := (GR.behind b1).behind bd
      have B2 := hB.trans ((below_both b1 bd).mono hB.size)
      have hX := hA'.behind B2
      have hY := hD.behind B2
      have zX : Wv W1.drew s' a' m' c' (wn s' M') i' := ⟨_, hX, rfl⟩
      have zY : Wv W1.drew false b n k ((D : Nat) : Int) j := ⟨_, hY, by simp [wn]⟩
      have N0 := (h0.1 (by omega)).behind (below_both b1 bd)
      clear b1 bd hX hY hB
      have c0 := G1.cell (i := 0) rfl
      have c1 := G1.cell (i := 1) rfl
      have c5 := GA.cell (i := 2) rfl
      have hT1 := GT.lt
      have hw : IntKind.i64.wrap (1 - 1) = 0 := by rw [IntWalk.i64_in _ (by omega)] <;> rfl
      have hw2 : IntKind.i64.wrap 0 = 0 := IntWalk.i64_in _ (by omega)
      go_region_held3 (fun w' => w'.cell? ⟨g, 0, none⟩ = some (.bool s') ∧ w'.cell? ⟨g, 1, none⟩ = some (.slice a' m' c') ∧ w'.cell? ⟨w.heap.size, 2, none⟩ = some (.slice b n k)) (first | exact ⟨G1.cell rfl, G1.cell rfl, GA.cell rfl⟩ | exact ⟨((G1.put (by simp <;> omega) _).put (by simp <;> omega) _).cell rfl, ((G1.put (by simp <;> omega) _).put (by simp <;> omega) _).cell rfl, ((GA.put (by simp <;> omega) _).put (by simp <;> omega) _).cell rfl⟩ | (refine ⟨?_, ?_, ?_⟩ <;> go_keep))
        (first
          | (go_at_call 16; (with_reducible refine (zmul zX zY hij').mono ?_); rintro e w3 ⟨f, fa, fl, fc, rfl, -, nf, b3⟩; have G1 := G1.behind b3; have GA := GA.behind b3; have GR := GR.behind b3; have GT := GT.behind b3; have B3 := B2.trans (b3.mono B2.size); have N0 := N0.behind b3; have nf := nf.mono (show w.heap.size + 3 ≤ _ by omega); have d0 := GT.cell (i := 2) rfl; have d1 := GT.cell (i := 3) rfl; have f0 := GT.f 2; have f1 := GT.f 3; clear b3))
      go_wp2
      go_roundw
      case rel => exact ⟨2, _, _, _, _, _, _, _, _, _, by omega, rfl, rfl, GA.put (by show w.heap.size ≠ w.heap.size + 2; omega) _ |>.put (by show w.heap.size ≠ w.heap.size + 2; omega) _, GR.put (by show w.heap.size + 1 ≠ w.heap.size + 2; omega) _ |>.put (by show w.heap.size + 1 ≠ w.heap.size + 2; omega) _, (GT.set 2 _).set 3 _, (B3.setCell (by show _ ≤ w.heap.size + 2; omega) _).setCell (by show _ ≤ w.heap.size + 2; omega) _, Lib.hid ⟨fun _ => N0.put2 (by show w.heap.size + 2 < _; omega) (by show w.heap.size + 2 < _; omega), fun _ => nf.put2 (by show w.heap.size + 2 < _; omega) (by show w.heap.size + 2 < _; omega)⟩⟩
      case measure => simp [intOf]
    · obtain rfl : z = 2 := hz
      have N0 := h0.1 (by omega)
      have N1 := h0.2 (by omega)
      have c0 := GT.cell (i := 0) rfl
      have c1 := GT.cell (i := 1) rfl
      have c2 := GT.cell (i := 2) rfl
      have c3 := GT.cell (i := 3) rfl
      have r0 := GR.cell (i := 0) rfl
      have r1 := GR.cell (i := 1) rfl
      have r2 := GR.cell (i := 2) rfl
      have r3 := GR.cell (i := 3) rfl
      have f0 := GR.f 0
      have f1 := GR.f 1
      have f2 := GR.f 2
      have f3 := GR.f 3
      go_wp2
      exact bodyPost_ret (v := .agg #[.bool p, .slice pa pl pc, .bool r, .slice qa ql qc]) (by simp [results, Tryd.results30, go_sem, r0, r1, r2, r3]) rfl ⟨_, _, _, _, _, _, _, _, rfl, ((N0.put2 (by show w.heap.size + 1 < _; omega) (by show w.heap.size + 1 < _; omega)).put2 (by show w.heap.size + 1 < _; omega) (by show w.heap.size + 1 < _; omega)).mono (by omega), ((N1.put2 (by show w.heap.size + 1 < _; omega) (by show w.heap.size + 1 < _; omega)).put2 (by show w.heap.size + 1 < _; omega) (by show w.heap.size + 1 < _; omega)).mono (by omega), (((hB.setCell (by show _ ≤ w.heap.size + 1; omega) _).setCell (by show _ ≤ w.heap.size + 1; omega) _).setCell (by show _ ≤ w.heap.size + 1; omega) _).setCell (by show _ ≤ w.heap.size + 1; omega) _⟩
end Go.Proofs.YtfbnpdlkbabmfaaDoor
