/- vernierlaw05's zero, few, is, alive. -/
import Derived.Test.YtfbnpdlkbabmfaaDoorRtOps
namespace Go.Proofs.YtfbnpdlkbabmfaaDoor
open Go.RowKit Go.Shelf
theorem field_abs (b : Bool) (a : Option Addr) (m c : Nat) (w : World) : Sem.run Tryd.prog (Instr.field 24 (.agg #[.bool b, .slice a m c]) 1) w = .ok (.slice a m c) w := rfl
theorem field_neg (b : Bool) (a : Option Addr) (m c : Nat) (w : World) : Sem.run Tryd.prog (Instr.field 24 (.agg #[.bool b, .slice a m c]) 0) w = .ok (.bool b) w := rfl
attribute [local go_sem ↓] Go.wp_at_zero Go.wp_at_succ field_abs field_neg

theorem cmpZ_self (x : Int) : cmpZ x x = 0 := by simp [cmpZ]
theorem New.one_lt {n : Nat} {W : World} {a : Option Addr} {m cap x : Nat} (h : New n W (.slice a m cap) [x]) : ∃ S off, a = some ⟨S, off, none⟩ ∧ S < W.heap.size ∧ W.cell? ⟨S, off, none⟩ = some (.int .u64 x) := by
  obtain ⟨S, h1, h2, _⟩ := h
  rcases h1 with ⟨_, h⟩ | ⟨off, c, e, hl, hc⟩
  · cases h
  · cases e
    exact ⟨S, off, rfl, h2, hc 0 (by simp)⟩
set_option maxRecDepth 100000 in
theorem lzero (pa qa : Option Addr) (pc qc : Nat) (w : World) :
    Calls Tryd.prog 15 #[.agg #[.bool false, .slice pa 0 pc, .slice qa 0 qc]] w fun e W' => e = .returned (.bool true) ∧ Below w.heap.size w W' := by
  have hb := dbox1 w #[.bool false, .slice pa 0 pc, .slice qa 0 qc] 26
  go_enter Tryd.func15, Tryd.ntmps15
  go_wp2_with fail
  obtain ⟨hB, G, hsz⟩ := hb _ rfl
  generalize (w.alloc (.cells #[.bool false, .slice pa 0 pc, .slice qa 0 qc] 26)) = W0 at hB G hsz ⊢
  have c0 := G.cell (i := 0) rfl
  have c1 := G.cell (i := 1) rfl
  have c2 := G.cell (i := 2) rfl
  go_wp2
  go_ret
  exact ⟨rfl, hB⟩
/-- an answer that is zero -/
theorem lzero_new {n : Nat} {p : Bool} {pa qa : Option Addr} {pl pc ql qc : Nat} {w : World} (hp : WNew n w (.agg #[.bool p, .slice pa pl pc]) 0) (hq : New n w (.slice qa ql qc) (digs 18446744073709551616 0)) :
    Calls Tryd.prog 15 #[.agg #[.bool p, .slice pa pl pc, .slice qa ql qc]] w fun e W' => e = .returned (.bool true) ∧ Below w.heap.size w W' := by
  obtain ⟨rfl, hn⟩ := hp.both
  obtain ⟨_, _, e1, _⟩ := hn.slice
  obtain ⟨_, _, e2, _⟩ := hq.slice
  simp only [Value.slice.injEq, Int.natAbs_zero, digs_zero, List.length_nil] at e1 e2
  obtain ⟨_, rfl, _⟩ := e1
  obtain ⟨_, rfl, _⟩ := e2
  exact lzero pa qa pc qc w
set_option maxRecDepth 100000 in
set_option maxHeartbeats 1000000 in
theorem few_calls (S N : Nat) (hN : N ≤ 2) (m n : Nat → Nat) (a b : Nat → Option Addr) (c k : Nat → Nat) (w : World) (hS : S < w.heap.size)
    (hc : ∀ j, j < N → w.cell? ⟨S, j * 3 + 1, none⟩ = some (.slice (a j) (m j) (c j)) ∧ w.cell? ⟨S, j * 3 + 2, none⟩ = some (.slice (b j) (n j) (k j))) :
    Calls Tryd.prog 8 #[.slice (some ⟨S, 0, none⟩) N N] w fun e W' => e = .returned (.bool (decide (∀ j, j < N → m j ≤ 6 ∧ n j ≤ 6))) ∧ Below w.heap.size w W' := by
  have HC := Lib.hid hc
  clear hc
  have hfin1 : Hid ((∀ j, j < N → m j ≤ 6 ∧ n j ≤ 6) → decide (∀ j, j < N → m j ≤ 6 ∧ n j ≤ 6) = true) := Lib.hid fun h => decide_eq_true h
  have hfin2 : Hid ((¬ ∀ j, j < N → m j ≤ 6 ∧ n j ≤ 6) → decide (∀ j, j < N → m j ≤ 6 ∧ n j ≤ 6) = false) := Lib.hid fun h => decide_eq_false h
  generalize decide (∀ j, j < N → m j ≤ 6 ∧ n j ≤ 6) = ans at hfin1 hfin2 ⊢
  go_enter Tryd.func8, Tryd.ntmps8
  go_wp2
  go_loopw [3] (fun i wr => ∃ q : Nat, q ≤ N ∧ i = .int .i64 q ∧ Hid (∀ j, j < q → m j ≤ 6 ∧ n j ≤ 6) ∧ Below w.heap.size w wr) (fun i _ => N - (intOf i).toNat)
  case atStart => exact ⟨0, Nat.zero_le _, rfl, Lib.hid (fun j hj => by omega), Below.refl _ _⟩
  case round =>
    obtain ⟨q, hq, rfl, hall, hB⟩ := hrel
    by_cases hlt : q < N
    · obtain ⟨c1, c2⟩ := HC.out q hlt
      have c1 := (hB.cell (p := ⟨S, q * 3 + 1, none⟩) hS).trans c1
      have c2 := (hB.cell (p := ⟨S, q * 3 + 2, none⟩) hS).trans c2
      by_cases h1 : 6 < m q
      · have hd : decide ((6 : Int) < (m q : Int)) = true := decide_eq_true (by omega)
        have hd' : decide (6 < m q) = true := decide_eq_true h1
        have hans : ans = false := hfin2.out fun h => by have := (h q hlt).1; omega
        clear h1
        go_wp2
        go_ret
        exact ⟨by rw [hans]; rfl, hB⟩
      · have hd : decide ((6 : Int) < (m q : Int)) = false := decide_eq_false (by omega)
        have hd' : decide (6 < m q) = false := decide_eq_false h1
        have H1 := Lib.hid h1
        clear h1
        by_cases h2 : 6 < n q
        · have he : decide ((6 : Int) < (n q : Int)) = true := decide_eq_true (by omega)
          have he' : decide (6 < n q) = true := decide_eq_true h2
          have hans : ans = false := hfin2.out fun h => by have := (h q hlt).2; omega
          clear h2
          go_wp2
          go_ret
          exact ⟨by rw [hans]; rfl, hB⟩
        · have he : decide ((6 : Int) < (n q : Int)) = false := decide_eq_false (by omega)
          have he' : decide (6 < n q) = false := decide_eq_false h2
          have H2 := Lib.hid h2
          clear h2
          go_wp2
          go_roundw
          case rel => exact ⟨q + 1, by omega, by go_num, Lib.hid (fun j hj => by
            have := H1.out
            have := H2.out
            by_cases e : j = q
            · subst e; omega
            · exact hall.out j (by omega)), hB⟩
          case measure => simp [intOf]; omega
    · obtain rfl : q = N := by omega
      have hans : ans = true := hfin1.out hall.out
      go_wp2
      go_ret
      exact ⟨by rw [hans]; rfl, hB⟩
def sm (m n : Nat) : Bool := decide (m ≤ 6) && decide (n ≤ 6)
theorem few_one (S : Nat) {s : Bool} {a b : Option Addr} {m c n k : Nat} (w : World) (G : Cs w S #[.bool s, .slice a m c, .slice b n k] 26) :
    Calls Tryd.prog 8 #[.slice (some ⟨S, 0, none⟩) 1 1] w fun e W' => e = .returned (.bool (sm m n)) ∧ Below w.heap.size w W' := by
  refine (few_calls S 1 (by omega) (fun _ => m) (fun _ => n) (fun _ => a) (fun _ => b) (fun _ => c) (fun _ => k) w G.lt (fun j hj => ?_)).mono fun e W' ⟨he, hb⟩ => ⟨?_, hb⟩
  · obtain rfl : j = 0 := by omega
    exact ⟨G.cell rfl, G.cell rfl⟩
  · rw [he]
    congr 2
    rw [sm, Bool.eq_iff_iff, Bool.and_eq_true, decide_eq_true_iff, decide_eq_true_iff, decide_eq_true_iff]
    exact ⟨fun h => h 0 (by omega), fun h _ _ => h⟩
theorem few_two (S : Nat) {s s' : Bool} {a b a' b' : Option Addr} {m c n k m' c' n' k' : Nat} (w : World) (G : Cs w S #[.bool s, .slice a m c, .slice b n k, .bool s', .slice a' m' c', .slice b' n' k'] 26) :
    Calls Tryd.prog 8 #[.slice (some ⟨S, 0, none⟩) 2 2] w fun e W' => e = .returned (.bool (sm m n && sm m' n')) ∧ Below w.heap.size w W' := by
  refine (few_calls S 2 (by omega) (fun j => if j = 0 then m else m') (fun j => if j = 0 then n else n') (fun j => if j = 0 then a else a') (fun j => if j = 0 then b else b') (fun j => if j = 0 then c else c') (fun j => if j = 0 then k else k') w G.lt (fun j hj => ?_)).mono fun e W' ⟨he, hb⟩ => ⟨?_, hb⟩
  · have : j = 0 ∨ j = 1 := by omega
    rcases this with rfl | rfl <;> exact ⟨G.cell rfl, G.cell rfl⟩
  · rw [he]
    congr 2
    rw [sm, sm, Bool.eq_iff_iff]
    simp only [Bool.and_eq_true, decide_eq_true_iff]
    refine ⟨fun h => ⟨by simpa using h 0 (by omega), by simpa using h 1 (by omega)⟩, fun h j hj => ?_⟩
    have : j = 0 ∨ j = 1 := by omega
    rcases this with rfl | rfl
    · simpa using h.1
    · simpa using h.2
theorem few_one_is (S : Nat) {s : Bool} {a b : Option Addr} {m c n k : Nat} {t : Bool} (w : World) (G : Cs w S #[.bool s, .slice a m c, .slice b n k] 26) (h : sm m n = t) :
    Calls Tryd.prog 8 #[.slice (some ⟨S, 0, none⟩) 1 1] w fun e W' => e = .returned (.bool t) ∧ Below w.heap.size w W' := by
  subst h
  exact few_one S w G
theorem few_two_is (S : Nat) {s s' : Bool} {a b a' b' : Option Addr} {m c n k m' c' n' k' : Nat} {t : Bool} (w : World) (G : Cs w S #[.bool s, .slice a m c, .slice b n k, .bool s', .slice a' m' c', .slice b' n' k'] 26) (h : (sm m n && sm m' n') = t) :
    Calls Tryd.prog 8 #[.slice (some ⟨S, 0, none⟩) 2 2] w fun e W' => e = .returned (.bool t) ∧ Below w.heap.size w W' := by
  subst h
  exact few_two S w G
set_option maxRecDepth 100000 in
set_option maxHeartbeats 2000000 in
theorem lis5 {p t : Bool} {pa qa ta da : Option Addr} {pl pc ql qc tl tc dl dc n0 n1 d D i : Nat} {z y : Int} {w : World} (hX : WNew n0 w (.agg #[.bool p, .slice pa pl pc]) z) (ND : New n1 w (.slice qa ql qc) (digs 18446744073709551616 d)) (zY : Wv w t ta tl tc y i) (hD : Num w (.slice da dl dc) D i) (hz : z.natAbs < 18446744073709551616 ^ i) (hd : d < 18446744073709551616 ^ i) (hi : 2 * i ≤ 4398046511104) (hT : TabOk w) (HG : Hid (Nat.gcd z.natAbs d = 1)) (HE : Hid (Eqv z d y D)) :
    Calls Tryd.prog 19 #[.agg #[.bool p, .slice pa pl pc, .slice qa ql qc], .agg #[.bool t, .slice ta tl tc], .slice da dl dc] w fun e W' => e = .returned (.bool true) ∧ Below w.heap.size w W' := by
  have HI := Lib.hid hi
  have HK : Hid (i ≤ 9223372036854775806) := Lib.hid (by omega)
  have HK2 : Hid (i ≤ 17592186044416) := Lib.hid (by omega)
  have zX := hX.wv hz
  have hDx := ND.num hd
  obtain ⟨rfl, NX⟩ := hX.both
  generalize hpp : decide (z < 0) = p at *
  have HP : Hid (decide (z < 0) = p) := Lib.hid hpp
  clear hX hpp
  have hNX := NX.num hz
  have HZ := Lib.hid hz
  have HDD := Lib.hid hd
  have hb := dbox2 w #[.bool p, .slice pa pl pc, .slice qa ql qc] #[.bool t, .slice ta tl tc] 26 24
  have hbw := fun W s a m c => dbox1 W #[.bool s, .slice a m c] 24
  clear hz hd hi
  go_enter Tryd.func19, Tryd.ntmps19
  go_wp2_with fail
  obtain ⟨hB, GX, GY, hsz⟩ := hb _ rfl
  generalize ((w.alloc (.cells #[.bool p, .slice pa pl pc, .slice qa ql qc] 26)).alloc (.cells #[.bool t, .slice ta tl tc] 24)) = W0 at hB GX GY hsz ⊢
  clear hb
  have c0 := GX.cell (i := 0) rfl
  have c1 := GX.cell (i := 1) rfl
  have c2 := GX.cell (i := 2) rfl
  go_wp2_with fail
  refine (gcd_calls (hNX.behind hB) (hDx.behind hB) (by have := HI.out; omega) (hT.behind hB)).mono ?_
  rintro e w1 ⟨v, rfl, NG, b1⟩
  rw [HG.out, digs_small (n := 1) (by decide) (by decide) (by decide)] at NG
  have GX := GX.behind b1
  have GY := GY.behind b1
  have B1 := below_both hB b1
  have z1 := b1.size
  obtain ⟨ga, gc, rfl, hgc⟩ := NG.slice
  clear hgc b1 c0 c1 c2
  have c0 := GX.cell (i := 0) rfl
  have c1 := GX.cell (i := 1) rfl
  have c2 := GX.cell (i := 2) rfl
  go_wp2_with fail
  refine (zmul (zX.behind B1) (⟨_, hD.behind B1, rfl⟩ : Wv w1 false da dl dc (wn false D) i) (by have := HI.out; omega)).mono ?_
  rintro e w2 ⟨e1, ea, el, ec, rfl, zL, -, b2⟩
  have GX := GX.behind b2
  have GY := GY.behind b2
  have NG := NG.behind b2
  have B2 := below_both B1 b2
  have z2 := b2.size
  clear c0 c1 c2
  obtain ⟨b3, GL, z3⟩ := hbw w2 e1 ea el ec _ rfl
  have GX := GX.behind b3
  have GY := GY.behind b3
  have c0 := GX.cell (i := 0) rfl
  have c1 := GX.cell (i := 1) rfl
  have c2 := GX.cell (i := 2) rfl
  have y0 := GY.cell (i := 0) rfl
  have y1 := GY.cell (i := 1) rfl
  go_wp2_with fail
  clear c0 c1 c2 y0 y1
  generalize (w2.alloc (.cells #[.bool e1, .slice ea el ec] 24)) = W3 at b3 GX GY GL z3 ⊢
  generalize w2.heap.size = gl at GL z3 z2 ⊢
  have NG := NG.behind b3
  have zL := zL.behind b3
  have B3 := below_both B2 b3
  refine (zmul (zY.behind B3) (⟨_, hDx.behind B3, rfl⟩ : Wv W3 false qa ql qc (wn false d) i) (by have := HI.out; omega)).mono ?_
  rintro e w4 ⟨f1, fa, fl, fc, rfl, zR, -, b4⟩
  have GX := GX.behind b4
  have GL := GL.behind b4
  have NG := NG.behind b4
  have zL := zL.behind b4
  have B4 := below_both B3 b4
  have z4 := b4.size
  clear GY
  go_wp2_with fail
  obtain ⟨b5, GR, z5⟩ := hbw w4 f1 fa fl fc _ rfl
  generalize (w4.alloc (.cells #[.bool f1, .slice fa fl fc] 24)) = W5 at b5 GR z5 ⊢
  generalize w4.heap.size = gr at GR z5 z4 ⊢
  have GX := GX.behind b5
  have GL := GL.behind b5
  have NG := NG.behind b5
  have zL := zL.behind b5
  have zR := zR.behind b5
  have Bc := below_both B4 b5
  clear hbw
  have bd := (Below.refl (W5).heap.size (W5)).drew
  have GX := GX.behind bd
  have GL := GL.behind bd
  have GR := GR.behind bd
  have NG := NG.behind bd
  have zL := zL.behind bd
  have zR := zR.behind bd
  have Bc := below_both Bc bd
  have NX := NX.behind Bc
  have ND := ND.behind Bc
  have zX := zX.behind Bc
  have hG : ∃ gs go, ga = some ⟨gs, go, none⟩ ∧ gs < W5.drew.heap.size ∧ W5.drew.cell? ⟨gs, go, none⟩ = some (.int .u64 1) := by
    exact NG.one_lt
  obtain ⟨gs, go, rfl, hG, cG⟩ := hG
  have hcmp : cmpZ (z * wn false D) (y * wn false d) = 0 := by
    have h : z * wn false D = y * wn false d := by
      have := HE.out
      simpa [wn, Eqv] using this
    rw [h]; exact cmpZ_self _
  have hcq : ∀ W : World, Wv W e1 ea el ec (z * wn false D) (i + i) → Wv W f1 fa fl fc (y * wn false d) (i + i) → Calls Tryd.prog 18 #[.agg #[.bool e1, .slice ea el ec], .agg #[.bool f1, .slice fa fl fc]] W fun e W' => e = .returned (.int .i64 0) ∧ Below W.heap.size W W' := fun W h1 h2 => by
    have := zcmp h1 h2 (by have := HI.out; omega) (by have := HI.out; omega)
    rwa [hcmp] at this
  have HCQ := Lib.hid hcq
  clear hcq hcmp bd b5 b4 b3 b2 B1 B2 B3 B4 hB NG zY hD hDx hNX hT
  have c0 := GX.cell (i := 0) rfl
  have c1 := GX.cell (i := 1) rfl
  have c2 := GX.cell (i := 2) rfl
  have l0 := GL.cell (i := 0) rfl
  have l1 := GL.cell (i := 1) rfl
  have r0 := GR.cell (i := 0) rfl
  have r1 := GR.cell (i := 1) rfl
  go_region_held3 (fun w' => w'.cell? ⟨w.heap.size, 0, none⟩ = some (.bool p) ∧ w'.cell? ⟨w.heap.size, 1, none⟩ = some (.slice pa pl pc) ∧ w'.cell? ⟨w.heap.size, 2, none⟩ = some (.slice qa ql qc) ∧ w'.cell? ⟨gl, 0, none⟩ = some (.bool e1) ∧ w'.cell? ⟨gl, 1, none⟩ = some (.slice ea el ec) ∧ w'.cell? ⟨gr, 0, none⟩ = some (.bool f1) ∧ w'.cell? ⟨gr, 1, none⟩ = some (.slice fa fl fc) ∧ w'.cell? ⟨gs, go, none⟩ = some (.int .u64 1)) (first | exact ⟨GX.cell rfl, GX.cell rfl, GX.cell rfl, GL.cell rfl, GL.cell rfl, GR.cell rfl, GR.cell rfl, cG⟩ | (refine ⟨?_, ?_, ?_, ?_, ?_, ?_, ?_, ?_⟩ <;> go_keep))
    (first
      | (go_at_call 18; (with_reducible refine (HCQ.out _ zL zR).mono ?_); rintro e u1 ⟨rfl, bb⟩; replace GX := GX.behind bb; replace GL := GL.behind bb; replace GR := GR.behind bb; replace NX := NX.behind bb; replace ND := ND.behind bb; replace zX := zX.behind bb; replace cG := (bb.cell hG).trans cG; replace hG := Nat.lt_of_lt_of_le hG bb.size; replace Bc := below_both Bc bb; clear bb)
      | (go_at_call 41; (with_reducible refine (same_new NV ND rfl HDD.out HK.out).mono ?_); rintro e u2 ⟨rfl, bb⟩; replace GX := GX.behind bb; replace GL := GL.behind bb; replace GR := GR.behind bb; replace NX := NX.behind bb; replace ND := ND.behind bb; replace zX := zX.behind bb; replace cG := (bb.cell hG).trans cG; replace hG := Nat.lt_of_lt_of_le hG bb.size; replace Bc := below_both Bc bb; clear bb)
      | (go_at_call 42; (with_reducible refine (norm_num (ND.num HDD.out) HK2.out).mono ?_); rintro e u3 ⟨v3, rfl, -, NV, bb⟩; replace GX := GX.behind bb; replace GL := GL.behind bb; replace GR := GR.behind bb; replace NX := NX.behind bb; replace ND := ND.behind bb; replace zX := zX.behind bb; replace cG := (bb.cell hG).trans cG; replace hG := Nat.lt_of_lt_of_le hG bb.size; replace Bc := below_both Bc bb; obtain ⟨v3a, v3c, rfl, -⟩ := NV.slice; clear bb)
      | (go_at_call 41; (with_reducible refine (same_new NW NX rfl HZ.out HK.out).mono ?_); rintro e u4 ⟨rfl, bb⟩; replace GX := GX.behind bb; replace GL := GL.behind bb; replace GR := GR.behind bb; replace NX := NX.behind bb; replace ND := ND.behind bb; replace zX := zX.behind bb; replace cG := (bb.cell hG).trans cG; replace hG := Nat.lt_of_lt_of_le hG bb.size; replace Bc := below_both Bc bb; clear bb)
      | (go_at_call 43; (with_reducible refine (znorm zX HK2.out).mono ?_); rintro e u5 ⟨h1, ha, hl, hc, rfl, -, hW, bb⟩; replace GX := GX.behind bb; replace GL := GL.behind bb; replace GR := GR.behind bb; replace NX := NX.behind bb; replace ND := ND.behind bb; replace zX := zX.behind bb; replace cG := (bb.cell hG).trans cG; replace hG := Nat.lt_of_lt_of_le hG bb.size; replace Bc := below_both Bc bb; obtain ⟨hh, NW⟩ := hW.both; subst hh; rw [HP.out]; clear bb))
  go_wp2
  go_ret
  exact ⟨rfl, Bc⟩
end Go.Proofs.YtfbnpdlkbabmfaaDoor

/- vernierlaw05's alive. -/
namespace Go.Proofs.YtfbnpdlkbabmfaaDoor
open Go.RowKit Go.Shelf
attribute [local go_sem ↓] Go.wp_at_zero Go.wp_at_succ

set_option maxRecDepth 100000 in
set_option maxHeartbeats 2000000 in
theorem lalive5 {w : World} (hT : TabOk w) :
    Calls Tryd.prog 7 #[] w fun e W' => e = .returned (.bool true) ∧ Below w.heap.size w W' := by
  have b1 := bel_alloc w (.cells #[.int .u64 ((3 : Nat) : Int)] 47)
  have b2 := bel_alloc (w.alloc (.cells #[.int .u64 ((3 : Nat) : Int)] 47)) (.cells #[.int .u64 ((6 : Nat) : Int)] 47)
  have n1 := (num_one w 3 (by decide)).behind b2
  have n2 := num_one (w.alloc (.cells #[.int .u64 ((3 : Nat) : Int)] 47)) 6 (by decide)
  have hbr := fun W p pa pl pc qa ql qc => dbox1 W #[.bool p, .slice pa pl pc, .slice qa ql qc] 26
  have B2 := below_both b1 b2
  rw [World.size_alloc] at n2
  go_enter Tryd.func7, Tryd.ntmps7
  go_wp2_with fail
  generalize ((w.alloc (.cells #[.int .u64 ((3 : Nat) : Int)] 47)).alloc (.cells #[.int .u64 ((6 : Nat) : Int)] 47)) = W2 at n1 n2 B2 ⊢
  refine (rnorm_ok (⟨_, n1, rfl⟩ : Wv W2 false (some ⟨w.heap.size, 0, none⟩) 1 1 (wn false 3) 1) n2 (by decide) (Lib.hid (by decide)) (hT.behind B2)).mono ?_
  rintro e w3 ⟨p, pa, pl, pc, qa, ql, qc, u, rfl, nf, nd, b3, hu⟩
  subst hu
  rw [show rz (wn false 3) 6 = 1 by decide] at nf
  rw [show rd (wn false 3) 6 = 2 by decide, digs_small (n := 2) (by decide) (by decide) (by decide)] at nd
  obtain ⟨hp, ng⟩ := nf.both
  obtain rfl : p = false := hp
  rw [show (1 : Int).natAbs = 1 from rfl, digs_small (n := 1) (by decide) (by decide) (by decide)] at ng
  obtain ⟨b4, G, -⟩ := hbr w3 false pa pl pc qa ql qc _ rfl
  have ng := ng.behind b4
  have ne := nd.behind b4
  have B4 := below_both (below_both B2 b3) b4
  obtain ⟨S1, o1, rfl, rfl, d1⟩ := ng.one
  obtain ⟨S2, o2, rfl, rfl, d2⟩ := ne.one
  clear n1 n2 b1 b2 b3 b4 B2 nf nd ng ne hbr
  have c0 := G.cell (i := 0) rfl
  have c1 := G.cell (i := 1) rfl
  have c2 := G.cell (i := 2) rfl
  go_wp2
  go_ret
  exact ⟨rfl, B4⟩
end Go.Proofs.YtfbnpdlkbabmfaaDoor

/- vernierlaw05.RatioMany, walked. -/
namespace Go.Proofs.YtfbnpdlkbabmfaaDoor
open Go.RowKit Go.Shelf
attribute [local go_sem ↓] Go.wp_at_zero Go.wp_at_succ

theorem num_len {w : World} {a : Option Addr} {m cap M i q : Nat} (h : Num w (.slice a m cap) M i) (hm : m ≤ q) : Num w (.slice a m cap) M q := by
  obtain ⟨xs, h1, h2, h3, h4⟩ := h
  obtain ⟨b, c, e⟩ := h1.slice
  cases e
  exact ⟨xs, h1, h2, h3, hm⟩
theorem Wv.len {w : World} {s : Bool} {a : Option Addr} {m c i q : Nat} {x : Int} (h : Wv w s a m c x i) (hm : m ≤ q) : Wv w s a m c x q := by
  obtain ⟨M, h1, h2⟩ := h
  exact ⟨M, num_len h1 hm, h2⟩
theorem rof_ok {s : Bool} {a : Option Addr} {m c i : Nat} {E x : Int} {w : World} (zA : Wv w s a m c x i) (hi : i ≤ 4096) (HM : Hid (mayB m E = true)) (hT : TabOk w) :
    Calls Tryd.prog 24 #[.agg #[.bool s, .slice a m c, .int .i64 E]] w (RQ w (rz (x * 2 ^ E.toNat) (2 ^ (-E).toNat)) (rd (x * 2 ^ E.toNat) (2 ^ (-E).toNat)) 0) := by
  rcases Int.lt_or_le E 0 with h | h
  · have := rof_neg zA hi HM (-E).toNat (by omega) (by omega) hT
    rw [show E.toNat = 0 by omega, Int.pow_zero, Int.mul_one]
    exact this
  · have := rof_pos zA hi HM E.toNat (by omega) hT
    rw [show (-E).toNat = 0 by omega, Nat.pow_zero]
    exact this
theorem nbits_gt {d : Nat} (h : d ≠ 0) : decide ((0 : Int) < (nbits d : Int)) = true := by
  refine decide_eq_true ?_
  have : nbits d ≠ 0 := fun e => h (nbits_eq_zero (by omega))
  omega
theorem bits_gt {va : Value} {D i : Nat} {w : World} (hA : Num w va D i) (hi : i ≤ 17592186044416) (h : D ≠ 0) :
    Calls Tryd.prog 14 #[va] w fun e W' => ∃ n : Nat, e = .returned (.int .i64 (n : Int)) ∧ decide ((0 : Int) < (n : Int)) = true ∧ decide (0 < n) = true ∧ Below w.heap.size w W' :=
  (bits_num hA hi).mono fun e W' ⟨h1, h2⟩ => ⟨_, h1, nbits_gt h, by have := nbits_gt h; simpa using this, h2⟩
set_option maxRecDepth 100000 in
set_option maxHeartbeats 2000000 in
theorem many_big {s : Bool} {a : Option Addr} {m c i : Nat} {E x : Int} {w : World} (zA : Wv w s a m c x i) (hT : TabOk w) (hm : 6 < m) :
    Calls Tryd.prog 6 #[.agg #[.bool s, .slice a m c, .int .i64 E]] w fun e W' => e = .returned (.bool true) ∧ Below w.heap.size w W' := by
  have hb := dbox1 w #[.bool s, .slice a m c, .int .i64 E] 44
  have hbs := fun W p pa pl pc qa ql qc => dbox1 W #[.bool p, .slice pa pl pc, .slice qa ql qc] 26
  have h1 : decide ((6 : Int) < (m : Int)) = true := decide_eq_true (by omega)
  have h2 : decide (6 < m) = true := decide_eq_true hm
  clear hm
  go_enter Tryd.func6, Tryd.ntmps6
  go_wp2_with fail
  obtain ⟨hB, G, hsz⟩ := hb _ rfl
  generalize (w.alloc (.cells #[.bool s, .slice a m c, .int .i64 E] 44)) = W0 at hB G hsz ⊢
  clear hb
  refine (lalive5 (hT.behind hB)).mono ?_
  rintro e w1 ⟨rfl, b1⟩
  have G := G.behind b1
  have B1 := below_both hB b1
  have c0 := G.cell (i := 0) rfl
  have c1 := G.cell (i := 1) rfl
  have c2 := G.cell (i := 2) rfl
  go_wp2
  go_ret
  exact ⟨rfl, B1⟩
set_option maxRecDepth 100000 in
set_option maxHeartbeats 2000000 in
theorem many_no {s : Bool} {a : Option Addr} {m c i : Nat} {E x : Int} {w : World} (zA : Wv w s a m c x i) (hT : TabOk w) (hm : m ≤ 6) (HM : Hid (mayB m E = false)) :
    Calls Tryd.prog 6 #[.agg #[.bool s, .slice a m c, .int .i64 E]] w fun e W' => e = .returned (.bool true) ∧ Below w.heap.size w W' := by
  have hb := dbox1 w #[.bool s, .slice a m c, .int .i64 E] 44
  have hbs := fun W p pa pl pc qa ql qc => dbox1 W #[.bool p, .slice pa pl pc, .slice qa ql qc] 26
  have h1 : decide ((6 : Int) < (m : Int)) = false := decide_eq_false (by omega)
  have h2 : decide (6 < m) = false := decide_eq_false (by omega)
  have zA := zA.len hm
  clear hm
  go_enter Tryd.func6, Tryd.ntmps6
  go_wp2_with fail
  obtain ⟨hB, G, hsz⟩ := hb _ rfl
  generalize (w.alloc (.cells #[.bool s, .slice a m c, .int .i64 E] 44)) = W0 at hB G hsz ⊢
  clear hb
  refine (lalive5 (hT.behind hB)).mono ?_
  rintro e w1 ⟨rfl, b1⟩
  have G := G.behind b1
  have B1 := below_both hB b1
  have c0 := G.cell (i := 0) rfl
  have c1 := G.cell (i := 1) rfl
  have c2 := G.cell (i := 2) rfl
  go_wp2_with fail
  refine (rof_no (s := s) (a := a) (c := c) (x := 0) (i := 0) HM).mono ?_
  rintro e w2 ⟨p, pa, pl, pc, qa, ql, qc, u, rfl, nf, nd, b2, hu⟩
  obtain ⟨b3, G3, z3⟩ := hbs w2 p pa pl pc qa ql qc _ rfl
  have G := (G.behind b2).behind b3
  have B3 := below_both (below_both B1 b2) b3
  have nf := nf.behind b3
  have nd := nd.behind b3
  clear c0 c1 c2 hbs
  have c0 := G.cell (i := 0) rfl
  have c1 := G.cell (i := 1) rfl
  have c2 := G.cell (i := 2) rfl
  have d0 := G3.cell (i := 0) rfl
  have d1 := G3.cell (i := 1) rfl
  have d2 := G3.cell (i := 2) rfl
  subst hu
  go_wp2_with fail
  generalize (w2.alloc (.cells #[.bool p, .slice pa pl pc, .slice qa ql qc] 26)) = W3 at b3 G G3 z3 B3 nf nd c0 c1 c2 d0 d1 d2 ⊢
  refine (check_is (s := s) (a := a) (cap := c) HM.out W3).mono ?_
  rintro e w4 ⟨rfl, b4⟩
  have G3 := G3.behind b4
  have B4 := below_both B3 b4
  have nf := nf.behind b4
  have nd := nd.behind b4
  clear c0 c1 c2 d0 d1 d2
  have d0 := G3.cell (i := 0) rfl
  have d1 := G3.cell (i := 1) rfl
  have d2 := G3.cell (i := 2) rfl
  go_wp2_with fail
  refine (lzero_new nf nd).mono ?_
  rintro e w5 ⟨rfl, b5⟩
  go_wp2
  go_ret
  exact ⟨rfl, below_both B4 b5⟩
set_option maxRecDepth 100000 in
set_option maxHeartbeats 2000000 in
theorem many_ok {s : Bool} {a : Option Addr} {m c i : Nat} {E x : Int} {w : World} (zA : Wv w s a m c x i) (hT : TabOk w) (hm : m ≤ 6) (HM : Hid (mayB m E = true)) :
    Calls Tryd.prog 6 #[.agg #[.bool s, .slice a m c, .int .i64 E]] w fun e W' => e = .returned (.bool true) ∧ Below w.heap.size w W' := by
  have hb := dbox1 w #[.bool s, .slice a m c, .int .i64 E] 44
  have hbs := fun W p pa pl pc qa ql qc => dbox1 W #[.bool p, .slice pa pl pc, .slice qa ql qc] 26
  have h1 : decide ((6 : Int) < (m : Int)) = false := decide_eq_false (by omega)
  have h2 : decide (6 < m) = false := decide_eq_false (by omega)
  have zA := zA.len hm
  clear hm
  obtain ⟨K, hK⟩ : ∃ K : Nat, K = 257 := ⟨_, rfl⟩
  have HP : Hid (2 ^ (-E).toNat < 18446744073709551616 ^ K) := Lib.hid (two_lt' (by have := (mayB_iff.1 HM.out).1; omega))
  have HR : Hid (rd (x * 2 ^ E.toNat) (2 ^ (-E).toNat) < 18446744073709551616 ^ K) := Lib.hid (Nat.lt_of_le_of_lt (rd_le _ _) HP.out)
  have H0 : Hid (rd (x * 2 ^ E.toNat) (2 ^ (-E).toNat) ≠ 0) := Lib.hid (rd_pos _ (Nat.pos_iff_ne_zero.1 (Nat.pow_pos (by decide))))
  have hof := fun W (b : Below w.heap.size w W) => rof_ok (zA.behind b) (by omega) HM (hT.behind b)
  generalize rd (x * 2 ^ E.toNat) (2 ^ (-E).toNat) = d at HR H0 hof
  generalize rz (x * 2 ^ E.toNat) (2 ^ (-E).toNat) = z at hof
  go_enter Tryd.func6, Tryd.ntmps6
  go_wp2_with fail
  obtain ⟨hB, G, hsz⟩ := hb _ rfl
  generalize (w.alloc (.cells #[.bool s, .slice a m c, .int .i64 E] 44)) = W0 at hB G hsz ⊢
  clear hb
  refine (lalive5 (hT.behind hB)).mono ?_
  rintro e w1 ⟨rfl, b1⟩
  have G := G.behind b1
  have B1 := below_both hB b1
  have c0 := G.cell (i := 0) rfl
  have c1 := G.cell (i := 1) rfl
  have c2 := G.cell (i := 2) rfl
  go_wp2_with fail
  refine (hof _ B1).mono ?_
  rintro e w2 ⟨p, pa, pl, pc, qa, ql, qc, u, rfl, nf, nd, b2, hu⟩
  obtain ⟨b3, G3, z3⟩ := hbs w2 p pa pl pc qa ql qc _ rfl
  have G := (G.behind b2).behind b3
  have B3 := below_both (below_both B1 b2) b3
  have nf := nf.behind b3
  have nd := nd.behind b3
  clear c0 c1 c2 hbs
  have c0 := G.cell (i := 0) rfl
  have c1 := G.cell (i := 1) rfl
  have c2 := G.cell (i := 2) rfl
  have d0 := G3.cell (i := 0) rfl
  have d1 := G3.cell (i := 1) rfl
  have d2 := G3.cell (i := 2) rfl
  subst hu
  go_wp2_with fail
  generalize (w2.alloc (.cells #[.bool p, .slice pa pl pc, .slice qa ql qc] 26)) = W3 at b3 G G3 z3 B3 nf nd c0 c1 c2 d0 d1 d2 ⊢
  refine (check_is (s := s) (a := a) (cap := c) HM.out W3).mono ?_
  rintro e w4 ⟨rfl, b4⟩
  have G3 := G3.behind b4
  have B4 := below_both B3 b4
  have nf := nf.behind b4
  have nd := nd.behind b4
  clear c0 c1 c2 d0 d1 d2
  have d0 := G3.cell (i := 0) rfl
  have d1 := G3.cell (i := 1) rfl
  have d2 := G3.cell (i := 2) rfl
  go_wp2_with fail
  refine (bits_gt (nd.num HR.out) (by omega) H0.out).mono ?_
  rintro e w5 ⟨q, rfl, hq1, hq2, b5⟩
  go_wp2
  go_ret
  exact ⟨rfl, below_both B4 b5⟩
theorem many_walk {s : Bool} {a : Option Addr} {m c i : Nat} {E x : Int} {w : World} (zA : Wv w s a m c x i) (hT : TabOk w) :
    Calls Tryd.prog 6 #[.agg #[.bool s, .slice a m c, .int .i64 E]] w fun e W' => e = .returned (.bool true) ∧ Below w.heap.size w W' := by
  rcases Nat.lt_or_ge 6 m with h | h
  · exact many_big zA hT h
  · cases hm : mayB m E
    · exact many_no zA hT h (Lib.hid hm)
    · exact many_ok zA hT h (Lib.hid hm)
end Go.Proofs.YtfbnpdlkbabmfaaDoor
