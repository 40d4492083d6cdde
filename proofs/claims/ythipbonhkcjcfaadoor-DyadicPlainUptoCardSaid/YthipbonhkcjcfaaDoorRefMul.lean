/- vernierref01.Mul: the document's own product. -/
import Derived.Test.YthipbonhkcjcfaaDoorRefLimbs
import Derived.Test.YthipbonhkcjcfaaDoorMulNum
import Derived.IntWalk
namespace Go.Proofs.YthipbonhkcjcfaaDoor
open Go.RowKit Go.Shelf

/-- one row of a product, digit by digit: (the digits, what is carried) -/
def row16 (Q : List Nat) (x off : Nat) (s : List Nat) : Nat → List Nat × Nat
  | 0 => (s, 0)
  | k + 1 => ((row16 Q x off s k).1.set (off + k) (((row16 Q x off s k).2 + lim (row16 Q x off s k).1 (off + k) + x * lim Q k) % 65536), ((row16 Q x off s k).2 + lim (row16 Q x off s k).1 (off + k) + x * lim Q k) / 65536)
theorem mul16_le {x y : Nat} (hx : x < 65536) (hy : y < 65536) : x * y ≤ 4294836225 := Nat.mul_le_mul (show x ≤ 65535 by omega) (show y ≤ 65535 by omega)
theorem row16_fine {Q s : List Nat} {x : Nat} (off : Nat) (hQ : Low 65536 Q) (hs : Low 65536 s) (hx : x < 65536) (k : Nat) :
    (row16 Q x off s k).1.length = s.length ∧ (row16 Q x off s k).2 < 65536 ∧ Low 65536 (row16 Q x off s k).1 ∧ (∀ i, off + k ≤ i → lim (row16 Q x off s k).1 i = lim s i) := by
  induction k with
  | zero => exact ⟨rfl, by simp [row16], hs, fun _ _ => rfl⟩
  | succ k ih =>
    obtain ⟨h1, h2, h3, h4⟩ := ih
    have hm := mul16_le hx (lim_lt hQ (by decide) k)
    have ho := lim_lt h3 (by decide) (off + k)
    simp only [row16]
    generalize row16 Q x off s k = r at *
    refine ⟨by simp [h1], by omega, low_set h3 (Nat.mod_lt _ (by decide)), fun i hi => ?_⟩
    rw [lim_set, if_neg (by omega)]
    exact h4 i (by omega)
theorem row16_range {Q s : List Nat} {x off : Nat} (hQ : Low 65536 Q) (hs : Low 65536 s) (hx : x < 65536) (k : Nat) (hk : off + k ≤ s.length) :
    part 65536 (row16 Q x off s k).1 (off + k) + 65536 ^ (off + k) * (row16 Q x off s k).2 = part 65536 s (off + k) + 65536 ^ off * (x * part 65536 Q k) := by
  induction k with
  | zero => simp [part, row16]
  | succ k ih =>
    have hi := ih (by omega)
    obtain ⟨f1, f2, f3, f4⟩ := row16_fine off hQ hs hx k
    have hsk := f4 (off + k) (Nat.le_refl _)
    simp only [row16]
    generalize row16 Q x off s k = r at *
    rw [show off + (k + 1) = off + k + 1 by omega]
    simp only [part]
    rw [part_set_ge (Nat.le_refl _), lim_set, if_pos ⟨rfl, by omega⟩, hsk]
    have hb : (r.2 + lim s (off + k) + x * lim Q k) % 65536 + 65536 * ((r.2 + lim s (off + k) + x * lim Q k) / 65536) = r.2 + lim s (off + k) + x * lim Q k := Nat.mod_add_div _ _
    generalize (r.2 + lim s (off + k) + x * lim Q k) % 65536 = d at hb ⊢
    generalize (r.2 + lim s (off + k) + x * lim Q k) / 65536 = c at hb ⊢
    have hm := congrArg (65536 ^ (off + k) * ·) hb
    simp only [Nat.mul_add] at hm
    have h1 : 65536 ^ (off + k + 1) * c = 65536 ^ (off + k) * (65536 * c) := by rw [Nat.pow_succ, Nat.mul_assoc]
    have h2 : 65536 ^ off * (x * (part 65536 Q k + 65536 ^ k * lim Q k)) = 65536 ^ off * (x * part 65536 Q k) + 65536 ^ (off + k) * (x * lim Q k) := by
      rw [Nat.mul_add x, Nat.mul_add]
      congr 1
      rw [Nat.pow_add, Nat.mul_assoc (65536 ^ off), Nat.mul_left_comm x]
    rw [h1, h2]
    omega
theorem val_same_above {B : Nat} {xs ys : List Nat} (hl : xs.length = ys.length) {m : Nat} (h : ∀ i, m ≤ i → lim xs i = lim ys i) : val B xs + part B ys m = val B ys + part B xs m := by
  rcases Nat.le_total xs.length m with hm | hm
  · rw [part_ge B xs m hm, part_ge B ys m (by omega)]
    omega
  · have key : ∀ t, part B xs (m + t) + part B ys m = part B ys (m + t) + part B xs m := by
      intro t
      induction t with
      | zero => simp; omega
      | succ t ih => rw [show m + (t + 1) = m + t + 1 by omega, part, part, h (m + t) (by omega)]; omega
    have := key (xs.length - m)
    rw [show m + (xs.length - m) = xs.length by omega, part_all] at this
    rw [hl, part_all] at this
    exact this
theorem row16_end {Q s : List Nat} {x off : Nat} (hQ : Low 65536 Q) (hs : Low 65536 s) (hx : x < 65536) (k : Nat) (hk : off + k ≤ s.length) (hkQ : Q.length ≤ k) (h0 : (row16 Q x off s k).2 = 0) :
    val 65536 (row16 Q x off s k).1 = val 65536 s + 65536 ^ off * (x * val 65536 Q) := by
  have h1 := row16_range hQ hs hx k hk
  obtain ⟨f1, f2, f3, f4⟩ := row16_fine off hQ hs hx k
  have h2 := val_same_above (B := 65536) f1 f4
  rw [h0, part_ge _ Q k hkQ] at h1
  omega
/-- what holds of the digits when i rows are in -/
def Mul16 (P Q : List Nat) (i : Nat) (s : List Nat) : Prop := s.length = P.length + Q.length + 1 ∧ Low 65536 s ∧ val 65536 s = part 65536 P i * val 65536 Q ∧ ∀ j, i + Q.length ≤ j → lim s j = 0
theorem mul16_zero (P Q : List Nat) : Mul16 P Q 0 (List.replicate (P.length + Q.length + 1) 0) :=
  ⟨by simp, low_rep (by decide), by rw [val_zeros _ _ (fun x hx => List.eq_of_mem_replicate hx)]; simp [part], fun j _ => by simp [lim, List.getElem?_replicate]; split <;> rfl⟩
theorem mul16_step {P Q s : List Nat} {i k : Nat} (hP : Low 65536 P) (hQ : Low 65536 Q) (h : Mul16 P Q i s) (hi : i < P.length) (hk1 : Q.length ≤ k) (hk2 : k ≤ Q.length + 1) (h0 : (row16 Q (lim P i) i s k).2 = 0) : Mul16 P Q (i + 1) (row16 Q (lim P i) i s k).1 := by
  obtain ⟨g1, g2, g3, g4⟩ := h
  have hx := lim_lt hP (by decide) i
  obtain ⟨f1, f2, f3, f4⟩ := row16_fine (s := s) i hQ g2 hx k
  refine ⟨by omega, f3, ?_, fun j hj => ?_⟩
  · rw [row16_end hQ g2 hx k (by omega) hk1 h0, g3, part, Nat.add_mul, Nat.mul_assoc]
  · rw [f4 j (by omega)]
    exact g4 j (by omega)
theorem mul16_digs {M N : Nat} {s : List Nat} (h : Mul16 (digs 65536 M) (digs 65536 N) (digs 65536 M).length s) : cutz s = digs 65536 (M * N) := by
  obtain ⟨_, g2, g3, _⟩ := h
  rw [cutz_eq_digs (by decide) g2, g3, part_all, val_digs (by decide), val_digs (by decide)]

/-- make(N, n) -/
theorem make_N (n : Nat) (hn : n ≤ 35184372088832) (u : World) : (Instr.makeSlice 34 (.int .i64 (n : Int)) (.int .i64 (n : Int))).run Tryd.prog u =
    .ok (.slice (some ⟨u.heap.size, 0, none⟩) n n) (u.alloc (.cells (cellsOf .i64 (List.replicate n 0)) 3)) := by
  obtain ⟨i0, hi, hz0, hz1, hz2⟩ := info_parts info_int
  have h := run_make (P := Tryd.prog) u 34 3 i0 (.int .i64 0) Tryd.underlying34 hi hz0 .i64 .i64 n n (by omega) (Int.le_refl _) (by rw [hz2]; omega) (by omega)
  rw [h, hz1]
  simp [Value.cells, made_cells]
theorem Row.drewN {k : IntKind} {t : TypeId} {W : World} {S : Nat} {s : List Nat} (h : Row k t W S s) (q : Nat) : Row k t (W.drewN q) S s := h
theorem Row.iat {t : TypeId} {W : World} {S : Nat} {s : List Nat} (h : Row .i64 t W S s) (cap : Nat) (hc : s.length ≤ cap) : IAt S W (.slice (some ⟨S, 0, none⟩) s.length cap) s :=
  .inr ⟨0, cap, rfl, hc, fun j hj => by rw [Nat.zero_add]; exact h.cell hj⟩
def Inner (Q s : List Nat) (x i k C : Nat) (st : List Nat) : Prop := row16 Q x i s k = (st, C)

set_option maxRecDepth 100000 in
set_option maxHeartbeats 4000000 in
theorem refMul_calls (ba bb : Nat) (va vb : Value) (M N : Nat) (hxl : (digs 65536 M).length ≤ 4398046511104) (hyl : (digs 65536 N).length ≤ 4398046511104) (w : World) (hba : ba < w.heap.size) (hbb : bb < w.heap.size) (hA : IAt ba w va (digs 65536 M)) (hB : IAt bb w vb (digs 65536 N)) :
    Calls Tryd.prog 18 #[va, vb] w fun e w' => ∃ v', e = .returned v' ∧ IArg w' v' (digs 65536 (M * N)) ∧ Below w.heap.size w w' := by
  obtain ⟨a, cap, rfl, hcap, hsa⟩ := hA.slice
  obtain ⟨b, cbp, rfl, hcbp, hsb⟩ := hB.slice
  have hP := digs_low (B := 65536) (by decide) M
  have hQ := digs_low (B := 65536) (by decide) N
  have hfin : Hid (∀ s, Mul16 (digs 65536 M) (digs 65536 N) (digs 65536 M).length s → cutz s = digs 65536 (M * N)) := Lib.hid (fun s h => mul16_digs h)
  generalize digs 65536 M = P at *
  generalize digs 65536 N = Q at *
  have HSA := Lib.hid hsa
  have HSB := Lib.hid hsb
  have HA := Lib.hid hA
  have HB := Lib.hid hB
  clear hsa hsb hA hB
  have hmk : ∀ u : World, (Instr.makeSlice 34 (.int .i64 ((P.length : Int) + (Q.length : Int) + 1)) (.int .i64 ((P.length : Int) + (Q.length : Int) + 1))).run Tryd.prog u = .ok (.slice (some ⟨u.heap.size, 0, none⟩) (P.length + Q.length + 1) (P.length + Q.length + 1)) (u.alloc (.cells (cellsOf .i64 (List.replicate (P.length + Q.length + 1) 0)) 3)) := make_N (P.length + Q.length + 1) (by omega)
  go_enter Tryd.func18, Tryd.ntmps18
  go_wp2
  clear hmk
  have hr0 : Row .i64 3 (w.alloc (.cells (cellsOf .i64 (List.replicate (P.length + Q.length + 1) 0)) 3)) w.heap.size (List.replicate (P.length + Q.length + 1) 0) := Row.new w .i64 3 _
  have hB0 : Below w.heap.size w (w.alloc (.cells (cellsOf .i64 (List.replicate (P.length + Q.length + 1) 0)) 3)) := (Below.refl _ w).alloc (Nat.le_refl _) _
  generalize (w.alloc (.cells (cellsOf .i64 (List.replicate (P.length + Q.length + 1) 0)) 3)) = W1 at *
  go_loopw [6, 7, 8] (fun i _ _ wr => ∃ (m : Nat) (s : List Nat), m ≤ P.length ∧ i = .int .i64 m ∧ Row .i64 3 wr w.heap.size s ∧ Hid (Mul16 P Q m s) ∧ Below w.heap.size w wr) (fun i _ _ _ => P.length - (intOf i).toNat)
  case atStart => exact ⟨0, _, by omega, rfl, hr0, Lib.hid (mul16_zero P Q), hB0⟩
  case round =>
    obtain ⟨m, s, hm, rfl, hr, hM, hBw⟩ := hrel
    clear hr0 hB0
    by_cases hlt : m < P.length
    · obtain ⟨oa, rfl⟩ := HSA.out (by omega)
      obtain ⟨wo, rfl⟩ : ∃ wo : World, wo = wr := ⟨_, rfl⟩
      have hxm := lim_lt hP (by decide) m
      have hcx := HA.out.cell hlt
      obtain ⟨hsl, hslow, _, hz⟩ := hM.out
      have HSL := Lib.hid hsl
      clear hsl
      have hsle : s.length ≤ P.length + Q.length + 1 ∧ P.length + Q.length + 1 ≤ s.length := by rw [HSL.out]; omega
      have HZ := Lib.hid hz
      clear hz
      generalize hxe : lim P m = x at *
      have HX := Lib.hid hxe
      clear hxe
      go_wp2
      go_loopw [7, 8] (fun c j wi => ∃ (k C : Nat) (st : List Nat), k ≤ Q.length + 1 ∧ (k ≤ Q.length ∨ C = 0) ∧ C < 65536 ∧ j = .int .i64 k ∧ c = .int .i64 C ∧ Inner Q s x m k C st ∧ Row .i64 3 wi w.heap.size st ∧ Below w.heap.size w wi) (fun _ j _ => Q.length + 1 - (intOf j).toNat)
      case atStart => exact ⟨0, 0, s, by omega, .inl (by omega), by omega, rfl, rfl, rfl, hr, hBw⟩
      case round =>
        obtain ⟨k, C, st, hk, hkC, hC, rfl, rfl, hin, hri, hBi⟩ := hrel
        obtain ⟨f1, f2, f3, f4⟩ := row16_fine (s := s) m hQ hslow hxm k
        rw [show row16 Q x m s k = (st, C) from hin] at f1 f2 f3 f4
        simp only at f1 f2 f3 f4
        have hsti : m + k < st.length := by omega
        have hsle2 : st.length ≤ s.length ∧ s.length ≤ st.length := by omega
        have ho := lim_lt f3 (by decide) (m + k)
        have hco := hri.cell hsti
        have hfo := hri.frozen (m + k)
        have HF4 := Lib.hid f4
        clear f1 f4
        have hstep : Hid (row16 Q x m s (k + 1) = (st.set (m + k) ((C + lim st (m + k) + x * lim Q k) % 65536), (C + lim st (m + k) + x * lim Q k) / 65536)) := Lib.hid (by
          simp only [row16]; rw [show row16 Q x m s k = (st, C) from hin])
        by_cases hq : k < Q.length
        · obtain ⟨ob, rfl⟩ := HSB.out (by omega)
          have hqk := lim_lt hQ (by decide) k
          have hcq := HB.out.cell hq
          have hca' : wr.cell? ⟨ba, oa + m, none⟩ = some (.int .i64 (x : Int)) := (hBi.cell (p := ⟨ba, oa + m, none⟩) hba).trans hcx
          have hcb' : wr.cell? ⟨bb, ob + k, none⟩ = some (.int .i64 (lim Q k : Int)) := (hBi.cell (p := ⟨bb, ob + k, none⟩) hbb).trans hcq
          clear hcq
          have hmu := mul16_le hxm hqk
          generalize lim Q k = y at *
          generalize lim st (m + k) = o at *
          have hxy : 0 ≤ (x : Int) * (y : Int) ∧ (x : Int) * (y : Int) ≤ 4294836225 := by
            rw [← Int.natCast_mul]; omega
          have hw1 : IntKind.i64.wrap ((x : Int) * (y : Int)) = (x : Int) * (y : Int) := IntWalk.i64_in _ (by omega)
          have hw2 : IntKind.i64.wrap ((C : Int) + (o : Int) + (x : Int) * (y : Int)) = ((C + o + x * y : Nat) : Int) := by
            rw [IntWalk.i64_in _ (by omega)]; simp
          have ht : C + o + x * y ≤ 4294967295 := by omega
          generalize C + o + x * y = t at *
          go_wp2
          go_quiet (fail)
          clear hw1 hw2 hxy
          have hnr := (hri.drewN nq).set (m + k) (t % 65536)
          have hnB : Below w.heap.size w ((wr.drewN nq).setCell ⟨w.heap.size, m + k, none⟩ (.int .i64 ((t % 65536 : Nat) : Int))) := (hBi.trans (below_drewN _ _ nq)).setCell (p := ⟨w.heap.size, m + k, none⟩) (Nat.le_refl _) _
          go_wp2
          go_roundw
          case rel => exact ⟨k + 1, t / 65536, st.set (m + k) (t % 65536), by omega, .inl (by omega), by omega, by go_num, by go_num, hstep.out, hnr, hnB⟩
          case measure => simp [intOf]; omega
        · have hq0 : Hid (lim Q k = 0) := Lib.hid (lim_ge (by omega))
          have ho0 : Hid (lim st (m + k) = 0) := Lib.hid (by rw [HF4.out (m + k) (Nat.le_refl _)]; exact HZ.out (m + k) (by omega))
          by_cases hc0 : 0 < C
          · have hkQ : k ≤ Q.length := by omega
            generalize lim st (m + k) = o at *
            have hst2 : Hid (row16 Q x m s (k + 1) = (st.set (m + k) ((C + o) % 65536), 0)) := Lib.hid (by rw [hstep.out, hq0.out, ho0.out]; simp only [Nat.mul_zero, Nat.add_zero, Nat.div_eq_of_lt hC])
            have hdz : ((C : Int) + (o : Int)) / 65536 = 0 := by rw [ho0.out]; omega
            have hnr := hri.set (m + k) ((C + o) % 65536)
            have hnB : Below w.heap.size w (wr.setCell ⟨w.heap.size, m + k, none⟩ (.int .i64 (((C + o) % 65536 : Nat) : Int))) := hBi.setCell (p := ⟨w.heap.size, m + k, none⟩) (Nat.le_refl _) _
            go_wp2
            go_roundw
            case rel => exact ⟨k + 1, 0, st.set (m + k) ((C + o) % 65536), by omega, .inr rfl, by omega, by go_num, by first | rfl | go_num, hst2.out, by first | exact hnr | simpa using hnr, by first | exact hnB | simpa using hnB⟩
            case measure => simp [intOf]; omega
          · obtain rfl : C = 0 := by omega
            have hMs : Hid (Mul16 P Q (m + 1) st) := Lib.hid (by
              have h1 := mul16_step (k := k) hP hQ hM.out hlt (by omega) hk (by rw [HX.out, show row16 Q x m s k = (st, 0) from hin])
              rw [HX.out, show row16 Q x m s k = (st, 0) from hin] at h1
              exact h1)
            go_wp2
            go_roundw
            case rel => exact ⟨m + 1, st, by omega, by go_num, hri, hMs, hBi⟩
            case measure => simp [intOf]; omega
    · obtain rfl : m = P.length := by omega
      have HF := Lib.hid (hfin.out s hM.out)
      have hlt2 := hr.lt
      have hsl : s.length = P.length + Q.length + 1 := hM.out.1
      have hl : s.length ≤ 9223372036854775806 := by omega
      have HR : Hid (IAt w.heap.size wr (.slice (some ⟨w.heap.size, 0, none⟩) (P.length + Q.length + 1) (P.length + Q.length + 1)) s) := Lib.hid (by
        have := hr.iat (P.length + Q.length + 1) (by omega)
        rwa [hsl] at this)
      clear hsl
      go_wp2_with (go_at_call 34; refine (cut_calls w.heap.size _ s hl _ HR.out).mono ?_; rintro e w' ⟨v', rfl, h7, rfl⟩)
      go_ret
      exact ⟨_, rfl, ⟨w.heap.size, hlt2, by rw [← HF.out]; exact h7⟩, hBw⟩
end Go.Proofs.YthipbonhkcjcfaaDoor
