/- mat: Cut. -/
import Derived.Test.YtdcebkhdnhdejaaMaCol
import Derived.Test.YtdcebkhdnhdejaaVwCopy
import Derived.Deep.RegionHeld3
import Derived.Deep.CutRange
namespace Go.Proofs.Ytdcebkhdnhdejaa
open Go.RowKit Go.Shelf
/-- copy into a part of an own list, as a step of a region that draws its order -/
theorem own_copy_step {ops : Array Oper} {o : Oper} {a : Act} {K : Act → World → Prop} {Q : Exit → Act → World → Prop} {E : Prop} {W : World} (hgd : o.guard = none) (d s : Operand)
    (ho : o.op = .call { callee := .builtin .copy, args := #[d, s], argTypes := #[22, 22] }) {b g n cap off len dcap sc : Nat} {zs qs : List Int} {ad : Addr} (hd : a.eval d = .slice (some ⟨g, off, none⟩) len dcap) (hs : a.eval s = .slice (some ad) qs.length sc)
    (hO : OwnK .u64 32 b W (.slice (some ⟨g, 0, none⟩) n cap) zs) (hl : qs.length ≤ len) (hfit : off + qs.length ≤ zs.length) (hsrc : ∀ j v, (valsK .u64 qs)[j]? = some v → W.cell? (ad.add j) = some v)
    (h : ∀ w', OwnK .u64 32 b w' (.slice (some ⟨g, 0, none⟩) n cap) (splice zs off qs) → (∀ q, q ≠ g → w'.heap[q]? = W.heap[q]?) → w'.heap.size = W.heap.size → Below b W w' → K (a.put o.dst (goInt qs.length)) w') :
    if Region.wanted o (yielded ops a.tmps) = true then Oper.wp Try.prog o a W K Q else E := by
  have hw : Region.wanted o (yielded ops a.tmps) = true := by simp [Region.wanted, hgd]
  rw [if_pos hw]
  have hO1 := hO
  unfold OwnK World.ownsRow at hO1
  obtain ⟨hz, hw'⟩ := hO1
  rcases hw' with ⟨e, _⟩ | ⟨g', cap', cur, e, hb, hg, hc1, hc2, hc3, hc4⟩
  · simp at e
  simp only [Value.slice.injEq, Option.some.injEq, Addr.mk.injEq, and_true] at e
  obtain ⟨rfl, rfl, rfl⟩ := e
  rw [Nat.mul_one] at hc3 hc4
  have hlen : (valsK .u64 qs).length = qs.length := valsK_length _ _
  have hcl : cur.toList.length = cur.size := Array.length_toList
  have hrun := run_copy_row (P := Try.prog) W 22 22 o.type 32 g off len dcap ad qs.length sc cur 32 (valsK .u64 qs) Try.underlying22 (by kernel_rfl) hg (by rw [hlen]; exact (Nat.min_eq_left hl).symm) hsrc (by rw [hlen]; omega) (by intro u hu; obtain ⟨x, _, rfl⟩ := List.mem_map.1 hu; rfl)
  rw [hlen] at hrun
  unfold Oper.wp
  simp [execOp, ho, resolve, invoke, builtin, hd, hs, hrun, Result.andThen]
  have hsz : (splice zs off qs).length = zs.length := length_splice zs off qs hfit
  refine h _ ?_ (fun q hq => setRow_other W g q _ (fun e => hq e)) (by simp [World.setRow]) (below_setRow (Below.refl _ _) hb _)
  unfold OwnK World.ownsRow
  rw [hsz]
  refine ⟨by rw [valsK_length, hsz, Nat.mul_one], .inr ⟨g, cap, _, rfl, hb, setRow_heap W g cur _ _ _ hg, hc1, hc2, ?_, ?_⟩⟩
  · rw [Nat.mul_one, ← hc3, ← hcl]
    simp
    omega
  · rw [Nat.mul_one, vals_splice, ← hc4]
    have := take_splice cur.toList (valsK .u64 qs) off zs.length (by rw [hlen]; exact hfit) (by omega)
    rw [hlen] at this
    exact this
def cutE (R C : Int) (m : Nat) (i j rows cols : Int) : Int := if mayM R C m = false then 11 else if rows < 1 ∨ cols < 1 ∨ outP R C i j rows cols = true then 4 else 0
theorem may_view {R C : Int} {m : Nat} (h : mayM R C m = true) : mayW R C C 0 1048576 = true ∧ mayW R C C 0 m = true := by
  obtain ⟨q1, q2, q3, q4, q5⟩ := mayM_iff.1 h
  have h1 : R * C ≤ 64 * 64 := Int.mul_le_mul q2 q4 (by omega) (by omega)
  have h2 : (R - 1) * C = R * C - C := by rw [Int.sub_mul, Int.one_mul]
  constructor
  · refine mayW_iff.2 ⟨by omega, q2, by omega, q4, Int.le_refl _, by omega, by omega, by omega, .inr (.inr ?_)⟩
    unfold lastW; omega
  · refine mayW_iff.2 ⟨by omega, q2, by omega, q4, Int.le_refl _, by omega, by omega, by omega, .inr (.inr ?_)⟩
    unfold lastW; omega
set_option maxRecDepth 100000 in
set_option maxHeartbeats 8000000 in
theorem mat_cut_no {R C i j rows cols : Int} {a : Option Addr} {m cap : Nat} {w : World} (hE : cutE R C m i j rows cols ≠ 0) :
    Calls Try.prog 33 #[.agg #[.int .i64 R, .int .i64 C, .slice a m cap], .int .i64 i, .int .i64 j, .int .i64 rows, .int .i64 cols] w fun e W' => e = .returned (.tuple #[.agg #[.int .i64 0, .int .i64 0, .slice none 0 0], .int .i64 (cutE R C m i j rows cols)]) ∧ Below w.heap.size w W' := by
  obtain ⟨B, G1, G2, hw0⟩ := vboxm w #[.int .i64 R, .int .i64 C, .slice a m cap] #[.int .i64 0, .int .i64 0, .slice none 0 0] 24 24 _ rfl
  have hk := fun w => shape_check (a := a) (m := m) (cap := cap) (R := R) (C := C) (w := w)
  have c0 := G1.cell (i := 0) rfl
  have c1 := G1.cell (i := 1) rfl
  have c2 := G1.cell (i := 2) rfl
  cases hm : mayM R C m
  · rw [show chkM R C m = 11 by unfold chkM; rw [hm]; rfl] at hk
    have he : cutE R C m i j rows cols = 11 := by unfold cutE; rw [if_pos hm]
    rw [he]
    clear he hE hm
    go_enter Try.func33, Try.ntmps33
    go_wp2_with fail
    generalize (w.alloc (.cells #[.int .i64 R, .int .i64 C, .slice a m cap] 24)).alloc (.cells #[.int .i64 0, .int .i64 0, .slice none 0 0] 24) = W0 at *
    refine (hk _).mono ?_
    rintro e w1 ⟨rfl, b1⟩
    have K := G2.behind b1
    have g0 := K.cell (i := 0) rfl
    have g1 := K.cell (i := 1) rfl
    have g2 := K.cell (i := 2) rfl
    have f0 := K.f 0
    have f1 := K.f 1
    have f2 := K.f 2
    have HB := Lib.hid (below_both B b1)
    go_wp2
    exact bodyPost_ret (v := .tuple #[.agg #[.int .i64 0, .int .i64 0, .slice none 0 0], .int .i64 11]) (by simp [results, Try.results33, go_sem, g0, g1, g2]) rfl ⟨rfl, HB.out.put3 (by omega) _ _ _⟩
  · rw [show chkM R C m = 0 by unfold chkM; rw [hm]; rfl] at hk
    have he : cutE R C m i j rows cols = 4 := by
      unfold cutE at hE ⊢
      rw [if_neg (by rw [hm]; simp)] at hE ⊢
      by_cases h : rows < 1 ∨ cols < 1 ∨ outP R C i j rows cols = true
      · rw [if_pos h]
      · rw [if_neg h] at hE; exact absurd rfl hE
    have ho : rows < 1 ∨ cols < 1 ∨ outP R C i j rows cols = true := by
      unfold cutE at hE
      rw [if_neg (by rw [hm]; simp)] at hE
      by_cases h : rows < 1 ∨ cols < 1 ∨ outP R C i j rows cols = true
      · exact h
      · rw [if_neg h] at hE; exact absurd rfl hE
    rw [he]
    have hv := (may_view hm).1
    clear he hE
    by_cases h1 : rows < 1
    · have q : decide (rows < 1) = true := decide_eq_true h1
      clear h1 ho hm hv
      go_enter Try.func33, Try.ntmps33
      go_wp2_with fail
      generalize (w.alloc (.cells #[.int .i64 R, .int .i64 C, .slice a m cap] 24)).alloc (.cells #[.int .i64 0, .int .i64 0, .slice none 0 0] 24) = W0 at *
      refine (hk _).mono ?_
      rintro e w1 ⟨rfl, b1⟩
      have K := G2.behind b1
      have g0 := K.cell (i := 0) rfl
      have g1 := K.cell (i := 1) rfl
      have g2 := K.cell (i := 2) rfl
      have f0 := K.f 0
      have f1 := K.f 1
      have f2 := K.f 2
      have HB := Lib.hid (below_both B b1)
      go_wp2
      exact bodyPost_ret (v := .tuple #[.agg #[.int .i64 0, .int .i64 0, .slice none 0 0], .int .i64 4]) (by simp [results, Try.results33, go_sem, g0, g1, g2]) rfl ⟨rfl, HB.out.put3 (by omega) _ _ _⟩
    · have q : decide (rows < 1) = false := decide_eq_false h1
      by_cases h2 : cols < 1
      · have q2 : decide (cols < 1) = true := decide_eq_true h2
        clear h1 h2 ho hm hv
        go_enter Try.func33, Try.ntmps33
        go_wp2_with fail
        generalize (w.alloc (.cells #[.int .i64 R, .int .i64 C, .slice a m cap] 24)).alloc (.cells #[.int .i64 0, .int .i64 0, .slice none 0 0] 24) = W0 at *
        refine (hk _).mono ?_
        rintro e w1 ⟨rfl, b1⟩
        have K := G2.behind b1
        have g0 := K.cell (i := 0) rfl
        have g1 := K.cell (i := 1) rfl
        have g2 := K.cell (i := 2) rfl
        have f0 := K.f 0
        have f1 := K.f 1
        have f2 := K.f 2
        have HB := Lib.hid (below_both B b1)
        go_wp2
        exact bodyPost_ret (v := .tuple #[.agg #[.int .i64 0, .int .i64 0, .slice none 0 0], .int .i64 4]) (by simp [results, Try.results33, go_sem, g0, g1, g2]) rfl ⟨rfl, HB.out.put3 (by omega) _ _ _⟩
      · have q2 : decide (cols < 1) = false := decide_eq_false h2
        have hout : outP R C i j rows cols = true := by
          rcases ho with h | h | h
          · exact absurd h h1
          · exact absurd h h2
          · exact h
        have HWH := Lib.hid (fun w => view_whole (R := R) (C := C) (a := a) (m := m) (cap := cap) (w := w))
        have HPA := Lib.hid (fun w => view_part_out (R := R) (C := C) (S := C) (O := 0) (i := i) (j := j) (rows := rows) (cols := cols) (w := w) hv hout)
        clear h1 h2 ho hm hv hout
        go_enter Try.func33, Try.ntmps33
        go_wp2_with fail
        generalize (w.alloc (.cells #[.int .i64 R, .int .i64 C, .slice a m cap] 24)).alloc (.cells #[.int .i64 0, .int .i64 0, .slice none 0 0] 24) = W0 at *
        refine (hk _).mono ?_
        rintro e w1 ⟨rfl, b1⟩
        have K1 := G1.behind b1
        have c0 := K1.cell (i := 0) rfl
        have c1 := K1.cell (i := 1) rfl
        have c2 := K1.cell (i := 2) rfl
        go_wp2_with fail
        refine (HWH.out _).mono ?_
        rintro e w2 ⟨rfl, b2⟩
        go_wp2_with fail
        refine (HPA.out _).mono ?_
        rintro e w3 ⟨rfl, b3⟩
        have b4 := bel_new w3 (.cells #[.int .i64 0, .int .i64 0, .int .i64 0, .int .i64 0] 95)
        have BB := below_both b1 (below_both b2 (below_both b3 b4))
        have K := G2.behind BB
        have g0 := K.cell (i := 0) rfl
        have g1 := K.cell (i := 1) rfl
        have g2 := K.cell (i := 2) rfl
        have f0 := K.f 0
        have f1 := K.f 1
        have f2 := K.f 2
        have HB := Lib.hid (below_both B BB)
        clear b1 b2 b3 b4 BB K1 c0 c1 c2
        go_upto_if 39 with (fail)
        generalize w3.alloc (.cells #[.int .i64 0, .int .i64 0, .int .i64 0, .int .i64 0] 95) = w4 at *
        go_wp2
        exact bodyPost_ret (v := .tuple #[.agg #[.int .i64 0, .int .i64 0, .slice none 0 0], .int .i64 4]) (by simp [results, Try.results33, go_sem, g0, g1, g2]) rfl ⟨rfl, HB.out.put3 (by omega) _ _ _⟩
/-- the part that is cut -/
def cutV (C i j rr cc : Nat) (xs : List Nat) : List Nat := tab rr cc fun r k => lim xs ((i + r) * C + (j + k))
theorem cut_view {R C i j rr cc : Nat} {m : Nat} (hm : mayM R C m = true) (h1 : 1 ≤ rr) (h2 : 1 ≤ cc) (h3 : i + rr ≤ R) (h4 : j + cc ≤ C) :
    mayW rr cc C ((0 : Int) + (i : Int) * (C : Int) + (j : Int)) m = true ∧ hasB rr cc = true ∧ outP R C i j rr cc = false := by
  obtain ⟨q1, q2, q3, q4, q5⟩ := mayM_iff.1 hm
  have e1 : (R : Int) * C = (i : Int) * C + ((rr : Int) - 1) * C + ((R : Int) - i - rr + 1) * C := by
    rw [← Int.add_mul, ← Int.add_mul]; congr 1; omega
  have e2 : 0 ≤ ((R : Int) - i - rr) * C := Int.mul_nonneg (by omega) (by omega)
  have e3 : ((R : Int) - i - rr + 1) * C = ((R : Int) - i - rr) * C + C := by rw [Int.add_mul, Int.one_mul]
  have e4 : 0 ≤ (i : Int) * C := Int.mul_nonneg (by omega) (by omega)
  have e5 : 0 ≤ ((rr : Int) - 1) * C := Int.mul_nonneg (by omega) (by omega)
  have h5 : (R : Int) * C ≤ 64 * 64 := Int.mul_le_mul q2 q4 (by omega) (by omega)
  refine ⟨mayW_iff.2 ⟨by omega, by omega, by omega, by omega, by omega, by omega, by omega, by omega, .inr (.inr ?_)⟩, decide_eq_true ⟨by omega, by omega⟩, decide_eq_false (by omega)⟩
  unfold lastW
  omega
theorem cut_copy (C i j rr cc : Nat) (xs : List Nat) : cpyW xs rr cc C ((0 : Int) + (i : Int) * (C : Int) + (j : Int)) = cutV C i j rr cc xs := by
  unfold cpyW cutV
  congr 1
  funext r k
  unfold plv
  congr 1
  have : ((i : Int) + r) * C = i * C + r * C := Int.add_mul _ _ _
  have e : (0 : Int) + (i : Int) * (C : Int) + (j : Int) + (r : Int) * (C : Int) + (k : Int) = (((i + r) * C + (j + k) : Nat) : Int) := by
    rw [Int.natCast_add, Int.natCast_mul, Int.natCast_add, Int.natCast_add, this]; omega
  rw [e, Int.toNat_natCast]
set_option maxRecDepth 100000 in
set_option maxHeartbeats 8000000 in
theorem mat_cut {R C i j rr cc : Nat} {a : Option Addr} {m cap : Nat} {xs : List Nat} {w : World} (hA : Arg w (.slice a m cap) xs) (hm : mayM R C m = true) (h1 : 1 ≤ rr) (h2 : 1 ≤ cc) (h3 : i + rr ≤ R) (h4 : j + cc ≤ C) :
    Calls Try.prog 33 #[.agg #[.int .i64 (R : Int), .int .i64 (C : Int), .slice a m cap], .int .i64 (i : Int), .int .i64 (j : Int), .int .i64 (rr : Int), .int .i64 (cc : Int)] w fun e W' => ∃ b c, e = .returned (.tuple #[.agg #[.int .i64 (rr : Int), .int .i64 (cc : Int), .slice b (rr * cc) c], .int .i64 0]) ∧ New w.heap.size W' (.slice b (rr * cc) c) (cutV C i j rr cc xs) ∧ Below w.heap.size w W' := by
  obtain ⟨B, G1, G2, hw0⟩ := vboxm w #[.int .i64 (R : Int), .int .i64 (C : Int), .slice a m cap] #[.int .i64 0, .int .i64 0, .slice none 0 0] 24 24 _ rfl
  have hk := fun w => shape_check (a := a) (m := m) (cap := cap) (R := (R : Int)) (C := (C : Int)) (w := w)
  rw [show chkM R C m = 0 by unfold chkM; rw [hm]; rfl] at hk
  obtain ⟨v1, v2, v3⟩ := cut_view hm h1 h2 h3 h4
  have HWH := Lib.hid (fun w => view_whole (R := (R : Int)) (C := (C : Int)) (a := a) (m := m) (cap := cap) (w := w))
  have HPA := Lib.hid (fun w => view_part (R := (R : Int)) (C := (C : Int)) (S := (C : Int)) (O := 0) (i := (i : Int)) (j := (j : Int)) (rows := (rr : Int)) (cols := (cc : Int)) (w := w) (may_view hm).1 v3)
  have hcp := fun (W : World) (h : Below w.heap.size w W) => view_copy (R := rr) (C := cc) (S := (C : Int)) (O := (0 : Int) + (i : Int) * (C : Int) + (j : Int)) (hA.behind h) v1 v2
  rw [cut_copy] at hcp
  have HCP := Lib.hid hcp
  obtain ⟨O, hO⟩ : ∃ O : Int, O = (0 : Int) + (i : Int) * (C : Int) + (j : Int) := ⟨_, rfl⟩
  rw [← hO] at HPA HCP
  have q : decide ((rr : Int) < 1) = false := decide_eq_false (by omega)
  have q2 : decide ((cc : Int) < 1) = false := decide_eq_false (by omega)
  have c0 := G1.cell (i := 0) rfl
  have c1 := G1.cell (i := 1) rfl
  have c2 := G1.cell (i := 2) rfl
  generalize hV : cutV C i j rr cc xs = V at *
  generalize hN : rr * cc = N at *
  clear hcp v1 v2 v3 hm h1 h2 h3 h4 hA hO hV hN
  go_enter Try.func33, Try.ntmps33
  go_wp2_with fail
  generalize (w.alloc (.cells #[.int .i64 (R : Int), .int .i64 (C : Int), .slice a m cap] 24)).alloc (.cells #[.int .i64 0, .int .i64 0, .slice none 0 0] 24) = W0 at *
  refine (hk _).mono ?_
  rintro e w1 ⟨rfl, b1⟩
  have K1 := G1.behind b1
  have c0 := K1.cell (i := 0) rfl
  have c1 := K1.cell (i := 1) rfl
  have c2 := K1.cell (i := 2) rfl
  go_wp2_with fail
  refine (HWH.out _).mono ?_
  rintro e w2 ⟨rfl, b2⟩
  go_wp2_with fail
  refine (HPA.out _).mono ?_
  rintro e w3 ⟨rfl, b3⟩
  obtain ⟨b4, L⟩ := mbox w3 #[.int .i64 (rr : Int), .int .i64 (cc : Int), .int .i64 (C : Int), .int .i64 O] 95 _ rfl
  have BB := below_both b1 (below_both b2 (below_both b3 b4))
  have K := G2.behind BB
  have KA := G1.behind BB
  have BW := below_both B BB
  clear b1 b2 b3 b4 BB K1 c0 c1 c2
  go_upto_if 39 with (fail)
  generalize w3.alloc (.cells #[.int .i64 (rr : Int), .int .i64 (cc : Int), .int .i64 (C : Int), .int .i64 O] 95) = w4 at *
  have c2 := KA.cell (i := 2) rfl
  have l0 := L.cell (i := 0) rfl
  have l1 := L.cell (i := 1) rfl
  have l2 := L.cell (i := 2) rfl
  have l3 := L.cell (i := 3) rfl
  go_wp2_with fail
  refine (HCP.out _ BW).mono ?_
  rintro e w5 ⟨b5, c5, rfl, hN5, k5⟩
  have K5 := K.behind k5
  have g0 := K5.cell (i := 0) rfl
  have g1 := K5.cell (i := 1) rfl
  have g2 := K5.cell (i := 2) rfl
  have f0 := K5.f 0
  have f1 := K5.f 1
  have f2 := K5.f 2
  have HNN := Lib.hid hN5
  have hlt := K.lt
  have HB := Lib.hid (below_both BW k5)
  have HBW := Lib.hid BW.size
  clear hN5 k5 K5 c2 l0 l1 l2 l3
  go_wp2
  exact bodyPost_ret (v := .tuple #[.agg #[.int .i64 (rr : Int), .int .i64 (cc : Int), .slice b5 N c5], .int .i64 0]) (by simp [results, Try.results33, go_sem, g0, g1, g2]) rfl
    ⟨b5, c5, rfl, (HNN.out.put3 hlt _ _ _).lower HBW.out, HB.out.put3 (by omega) _ _ _⟩
end Go.Proofs.Ytdcebkhdnhdejaa
