/- ratio's told: a fraction as it is told. -/
import Derived.Test.YtfbnpdlkbabmfaaDoorRatNum
import Derived.Test.YtfbnpdlkbabmfaaDoorGcd
namespace Go.Proofs.YtfbnpdlkbabmfaaDoor
open Go.RowKit Go.Shelf
attribute [local go_sem ↓] Go.wp_at_zero Go.wp_at_succ

/-- a fraction that is told -/
def RV (w : World) (z : Int) (d : Nat) (e : Ending) (W' : World) : Prop := ∃ p pa pl pc qa ql qc, e = .returned (.agg #[.bool p, .slice pa pl pc, .slice qa ql qc]) ∧ WNew w.heap.size W' (.agg #[.bool p, .slice pa pl pc]) z ∧ New w.heap.size W' (.slice qa ql qc) (digs 18446744073709551616 d) ∧ Below w.heap.size w W'
theorem rz_wn (s : Bool) (M D : Nat) : rz (wn s M) D = wn s (M / Nat.gcd M D) := by
  rw [rz, wn_abs]
  cases s
  · simp [wn]
  · simp only [wn, if_true]
    rw [Int.neg_ediv_of_dvd (Int.natCast_dvd_natCast.2 (Nat.gcd_dvd_left _ _)), Int.natCast_ediv]
theorem rd_wn (s : Bool) (M D : Nat) : rd (wn s M) D = D / Nat.gcd M D := by rw [rd, wn_abs]
theorem WNew.put3 {n : Nat} {W : World} {v : Value} {z : Int} (h : WNew n W v z) {p : Addr} (hp : p.block < n) (u : Value) : WNew n (W.setCell p u) v z := by
  obtain ⟨x, e, h⟩ := h
  exact ⟨x, e, h.put hp u⟩
theorem rvend {w W : World} {n r : Nat} {p : Bool} {pa qa : Option Addr} {pl pc ql qc d : Nat} {z : Int} (hB : Below w.heap.size w W) (hr : w.heap.size ≤ r) (hn : r < n) (nf : WNew n W (.agg #[.bool p, .slice pa pl pc]) z) (nd : New n W (.slice qa ql qc) (digs 18446744073709551616 d)) :
    RV w z d (.returned (.agg #[.bool p, .slice pa pl pc, .slice qa ql qc])) (((W.setCell ⟨r, 0, none⟩ (.bool p)).setCell ⟨r, 1, none⟩ (.slice pa pl pc)).setCell ⟨r, 2, none⟩ (.slice qa ql qc)) :=
  ⟨_, _, _, _, _, _, _, rfl, (((nf.put3 hn _).put3 hn _).put3 hn _).mono (by omega), (((nd.put hn _).put hn _).put hn _).mono (by omega), set3 hB hr _ _ _⟩
set_option maxRecDepth 100000 in
set_option maxHeartbeats 2000000 in
theorem rtold {s : Bool} {a b : Option Addr} {m c n k M D i : Nat} {w : World} (hA : Num w (.slice a m c) M i) (hD : Num w (.slice b n k) D i) (hi : i ≤ 4398046511104) (H0 : Hid (D ≠ 0)) (hT : TabOk w) :
    Calls Tryd.prog 31 #[.agg #[.bool s, .slice a m c], .slice b n k] w (RV w (rz (wn s M) D) (rd (wn s M) D)) := by
  rw [rz_wn, rd_wn]
  have hgl : Nat.gcd M D < 18446744073709551616 ^ i := Nat.lt_of_le_of_lt (Nat.gcd_le_right _ (Nat.pos_of_ne_zero H0.out)) hD.lt
  have HG0 : Hid (Nat.gcd M D ≠ 0) := Lib.hid (Nat.pos_iff_ne_zero.1 (Nat.gcd_pos_of_pos_right _ (Nat.pos_of_ne_zero H0.out)))
  have hgc := fun W hA hD hT => gcd_calls (w := W) (va := .slice a m c) (vb := .slice b n k) (M := M) (N := D) (i := i) hA hD hi hT
  generalize Nat.gcd M D = G at hgl HG0 hgc ⊢
  have HI := Lib.hid hi
  have hb := dbox2 w #[.bool s, .slice a m c] #[.bool false, .slice none 0 0, .slice none 0 0] 24 26
  have hs := fun W => dbox1 W #[.slice a m c, .slice b n k] 74
  go_enter Tryd.func31, Tryd.ntmps31
  go_wp2_with fail
  obtain ⟨hB0, GB, GR, hsz⟩ := hb _ rfl
  generalize ((w.alloc (.cells #[.bool s, .slice a m c] 24)).alloc (.cells #[.bool false, .slice none 0 0, .slice none 0 0] 26)) = W0 at hB0 GB GR hsz ⊢
  clear hb
  have c0 := GB.cell (i := 0) rfl
  have c1 := GB.cell (i := 1) rfl
  go_wp2_with fail
  refine (hgc _ (hA.behind hB0) (hD.behind hB0) (hT.behind hB0)).mono ?_
  rintro e w1 ⟨v, rfl, nG, b1⟩
  have GB := GB.behind b1
  have GR := GR.behind b1
  have B1 := below_both hB0 b1
  have hA := hA.behind B1
  have hD := hD.behind B1
  have hz1 := b1.size
  have hG := nG.num hgl
  obtain ⟨ga, gl, gc, rfl⟩ := hG.slice
  clear nG hgl hgc hi c0 c1 b1 hB0
  have c0 := GB.cell (i := 0) rfl
  have c1 := GB.cell (i := 1) rfl
  go_wp2_with fail
  obtain ⟨b2, GT, z2⟩ := hs w1 _ rfl
  generalize (w1.alloc (.cells #[.slice a m c, .slice b n k] 74)) = W2 at b2 GT z2 ⊢
  clear hs c0 c1
  have hTw : w.heap.size + 2 ≤ w1.heap.size := by omega
  generalize hTn : w1.heap.size = T at b2 GT z2 hTw ⊢
  have d0 := GT.cell (i := 0) rfl
  have d1 := GT.cell (i := 1) rfl
  go_wp2
  clear d0 d1
  have x0 : ∀ w : World, (Instr.index 74 (.agg #[.slice a m c, .slice b n k]) (.int .i64 0)).run Tryd.prog w = .ok (.slice a m c) w := fun _ => by kernel_rfl
  have x1 : ∀ w : World, (Instr.index 74 (.agg #[.slice a m c, .slice b n k]) (.int .i64 1)).run Tryd.prog w = .ok (.slice b n k) w := fun _ => by kernel_rfl
  go_loopw [18] (fun x wr => ∃ (q : Nat) (z : Int) (a0 : Option Addr) (l0 k0 : Nat) (a1 : Option Addr) (l1 k1 : Nat), q ≤ 2 ∧ z = q ∧ x = .int .i64 z ∧ Cs wr T #[.slice a0 l0 k0, .slice a1 l1 k1] 74 ∧ Below T w1 wr ∧ Hid ((1 ≤ q → New (T + 1) wr (.slice a0 l0 k0) (digs 18446744073709551616 (M / G))) ∧ (2 ≤ q → New (T + 1) wr (.slice a1 l1 k1) (digs 18446744073709551616 (D / G))))) (fun x _ => 2 - (intOf x).toNat)
  case atStart => exact ⟨0, _, _, _, _, _, _, _, by omega, rfl, rfl, GT, b2, Lib.hid ⟨fun h => by omega, fun h => by omega⟩⟩
  case round =>
    obtain ⟨q, z, a0, l0, k0, a1, l1, k1, hq, hz, rfl, GT, hB, h0⟩ := hrel
    have h0 := h0.out
    have hgr : T + 1 ≤ wr.heap.size := GT.lt
    have hA' := hA.behind (hTn ▸ hB)
    have hD' := hD.behind (hTn ▸ hB)
    have hG' := hG.behind (hTn ▸ hB)
    have hq : q = 0 ∨ q = 1 ∨ q = 2 := by omega
    rcases hq with rfl | rfl | rfl
    · obtain rfl : z = 0 := hz
      
      go_wp2_with fail
      refine (divmod_num hA' hG' HI.out HI.out HG0.out).mono ?_
      rintro e w2 ⟨u, v, rfl, nq, -, b2⟩
      have GT := GT.behind b2
      have B2 := hB.trans (b2.mono (by omega))
      have nq := nq.mono (show T + 1 ≤ _ from hgr)
      
      obtain ⟨ua, uc, rfl, -⟩ := nq.slice
      generalize hul : (digs 18446744073709551616 (M / G)).length = ul at *
      have d0 := GT.cell (i := 0) rfl
      have f0 := GT.f 0
      have hT1 := GT.lt
      clear b2 hA' hD' hG'
      go_wp2
      go_roundw
      case rel => exact ⟨1, _, _, _, _, _, _, _, by omega, rfl, rfl, GT.set 0 _, B2.setCell (Nat.le_refl _) _, Lib.hid ⟨fun _ => nq.put (Nat.lt_succ_self _) _, fun _ => by omega⟩⟩
      case measure => simp [intOf]
    · obtain rfl : z = 1 := hz
      have N0 := h0.1 (by omega)
      go_wp2_with fail
      refine (divmod_num hD' hG' HI.out HI.out HG0.out).mono ?_
      rintro e w2 ⟨u, v, rfl, nq, -, b2⟩
      have GT := GT.behind b2
      have B2 := hB.trans (b2.mono (by omega))
      have nq := nq.mono (show T + 1 ≤ _ from hgr)
      have N0 := N0.behind b2
      obtain ⟨ua, uc, rfl, -⟩ := nq.slice
      generalize hul : (digs 18446744073709551616 (D / G)).length = ul at *
      have d0 := GT.cell (i := 1) rfl
      have f0 := GT.f 1
      have hT1 := GT.lt
      clear b2 hA' hD' hG'
      go_wp2
      go_roundw
      case rel => exact ⟨2, _, _, _, _, _, _, _, by omega, rfl, rfl, GT.set 1 _, B2.setCell (Nat.le_refl _) _, Lib.hid ⟨fun _ => N0.put (Nat.lt_succ_self _) _, fun _ => nq.put (Nat.lt_succ_self _) _⟩⟩
      case measure => simp [intOf]
    · obtain rfl : z = 2 := hz
      have N0 := h0.1 (by omega)
      have N1 := h0.2 (by omega)
      have GB := GB.behind (hTn ▸ hB)
      have GR := GR.behind (hTn ▸ hB)
      have B2 := B1.trans (hB.mono (by omega))
      have hQ := N0.num (k := i) (Nat.lt_of_le_of_lt (Nat.div_le_self _ _) hA.lt)
      go_wp2_with fail
      have bd := (Below.refl wr.heap.size wr).drew
      have GB := GB.behind bd
      have GR := GR.behind bd
      have GT := GT.behind bd
      have N1 := N1.behind bd
      have hQ := hQ.behind bd
      have B3 := B2.trans (bd.mono B2.size)
      clear bd
      have c0 := GB.cell (i := 0) rfl
      have c1 := GT.cell (i := 0) rfl
      have c2 := GT.cell (i := 1) rfl
      have n0 := World.new_ne _ _ c1
      have hgd : T + 1 ≤ wr.drew.heap.size := hgr
      go_region_held3 (fun w' => w'.cell? ⟨w.heap.size, 0, none⟩ = some (.bool s) ∧ w'.cell? ⟨T, 0, none⟩ = some (.slice a0 l0 k0) ∧ w'.cell? ⟨T, 1, none⟩ = some (.slice a1 l1 k1)) (first | exact ⟨GB.cell rfl, GT.cell rfl, GT.cell rfl⟩ | exact ⟨(((GB.put (by simp <;> omega) _).put (by simp <;> omega) _).put (by simp <;> omega) _).cell rfl, (((GT.put (by simp <;> omega) _).put (by simp <;> omega) _).put (by simp <;> omega) _).cell rfl, (((GT.put (by simp <;> omega) _).put (by simp <;> omega) _).put (by simp <;> omega) _).cell rfl⟩ | (refine ⟨?_, ?_, ?_⟩ <;> go_keep))
        (first
          | (go_at_call 43; (with_reducible refine (wnorm_any hQ (Nat.le_trans HI.out (by decide))).mono ?_); rintro e w3 ⟨p, pa, pl, pc, rfl, nf, b3⟩; have GB := GB.behind b3; have GT := GT.behind b3; have GR := GR.behind b3; have N1 := N1.behind b3; have B4 := B3.trans (b3.mono B3.size); have nf := nf.mono (show w.heap.size + 2 ≤ _ by omega); have N1 := N1.mono (show w.heap.size + 2 ≤ _ by omega); have r0 := GR.cell (i := 0) rfl; have r1 := GR.cell (i := 1) rfl; have r2 := GR.cell (i := 2) rfl; have f0 := GR.f 0; have f1 := GR.f 1; have f2 := GR.f 2; clear b3))
      go_wp2
      exact bodyPost_ret (v := .agg #[.bool p, .slice pa pl pc, .slice a1 l1 k1]) (by simp [results, Tryd.results31, go_sem, r0, r1, r2]) rfl (rvend (r := w.heap.size + 1) (n := w.heap.size + 2) B4 (by omega) (by omega) nf N1)
end Go.Proofs.YtfbnpdlkbabmfaaDoor
