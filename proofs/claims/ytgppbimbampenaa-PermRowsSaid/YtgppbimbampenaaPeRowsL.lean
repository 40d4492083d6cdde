/- The law PermRows, walked. -/
import Derived.Test.YtgppbimbampenaaPeRows
import Derived.Test.YtgppbimbampenaaPeTells
import Derived.Test.YtgppbimbampenaaShEq
import Derived.Test.YtgppbimbampenaaSame
namespace Go.Proofs.Ytgppbimbampenaa
open Go.RowKit Go.Shelf
theorem same_args {va vb : Value} {xs : List Nat} {w : World} (hA : Arg w va xs) (hB : Arg w vb xs) (hl : xs.length ≤ 17592186044416) :
    Calls Try.prog 29 #[va, vb] w fun e W' => e = .returned (.bool true) ∧ Below w.heap.size w W' := by
  obtain ⟨b, _, h1⟩ := hA
  obtain ⟨d, _, h2⟩ := hB
  exact same_true b d va vb xs (by omega) w h1 h2
/-- rows in order are those that are told -/
theorem rows_part {xs : List Nat} {R C i r : Nat} {ps : List Int} (hi : i < R) (hr : zat ps i = (r : Int)) : partW (tab R C (rowG xs C ps)) (i * C) C = partW xs (r * C) C := by
  refine ext_lim (by rw [partW_length, partW_length]) fun j hj => ?_
  rw [partW_length] at hj
  rw [partW_at hj, partW_at hj, tab_lim _ hi hj]
  unfold rowG
  rw [hr, Int.toNat_natCast]
/-- undone they are as they were -/
theorem rows_back {xs : List Nat} {R C : Nat} {ps : List Int} (hp : permB ps = true) (hl : ps.length = R) (hx : xs.length = R * C) : tab R C (rowG (tab R C (rowG xs C ps)) C (invZ ps ps.length)) = xs := by
  have hC : ∀ k, k < R * C → 0 < C := fun k hk => by
    rcases Nat.eq_zero_or_pos C with h | h
    · subst h; omega
    · exact h
  refine ext_lim (by rw [tab_length, hx]) fun k hk => ?_
  rw [tab_length] at hk
  have h0 := hC k hk
  have h1 : k / C < R := by rwa [Nat.div_lt_iff_lt_mul h0]
  have h2 : k % C < C := Nat.mod_lt _ h0
  have hk2 : k / C * C + k % C = k := Nat.div_add_mod' k C
  have hz := then_inv hp
  have h3 : zat (thenZ ps (invZ ps ps.length)) (k / C) = ((k / C : Nat) : Int) := by rw [hz, idZ_at (by omega)]
  rw [thenZ_at (by rw [invZ_length]; omega)] at h3
  have h4 := ((permB_iff.1 (invZ_perm hp)).2 (k / C) (by rw [invZ_length]; omega)).1
  rw [invZ_length] at h4
  obtain ⟨q, hq⟩ : ∃ q : Nat, zat (invZ ps ps.length) (k / C) = (q : Int) := ⟨(zat (invZ ps ps.length) (k / C)).toNat, by omega⟩
  rw [hq, Int.toNat_natCast] at h3
  conv => lhs; rw [← hk2]
  rw [tab_lim _ h1 h2]
  unfold rowG
  rw [hq, Int.toNat_natCast]
  have := tab_lim (rowG xs C ps) (show q < R by omega) h2
  unfold rowG at this
  rw [this, h3, Int.toNat_natCast, hk2]
set_option maxRecDepth 100000 in
set_option maxHeartbeats 8000000 in
theorem permRows_calls {R C : Int} {m : Nat} {a : Option Addr} {cap : Nat} {v : Value} {xs : List Nat} {ps : List Int} {w : World} (hpos : 0 < w.heap.size) (hA : Arg w (.slice a m cap) xs) (hP : ArgK .i64 w v ps) (hpn : ps.length ≤ 17592186044416) :
    Calls Try.prog 6 #[.agg #[.int .i64 R, .int .i64 C, .slice a m cap], v] w fun e W' => e = .returned (.bool true) ∧ Below w.heap.size w W' := by
  have hxl : m = xs.length := by
    obtain ⟨a', c', e⟩ := hA.slice
    simp only [Value.slice.injEq] at e
    exact e.2.1
  obtain ⟨B, G1⟩ := mbox w #[.int .i64 R, .int .i64 C, .slice a m cap] 41 _ rfl
  have hal := fun w => law17_alive (w := w)
  have HC := Lib.hid (fun W => shape_check (R := R) (C := C) (a := a) (m := m) (cap := cap) (w := W))
  have HI := Lib.hid (fun (W : World) (h : Below w.heap.size w W) => law17_is (hP.behind h) hpn)
  by_cases hE : rowsE R C m ps = 0
  · have hgood : mayM R C m = true ∧ permB ps = true ∧ (ps.length : Int) = R := by
      unfold rowsE at hE
      rcases chkM_ways R C m with ⟨h0, h1⟩ | ⟨_, h1⟩
      · rw [h1, if_neg (by simp)] at hE
        by_cases h2 : chkP ps = 0
        · rw [if_neg (by simp [h2])] at hE
          by_cases h3 : (ps.length : Int) = R
          · exact ⟨h0, chkP_perm.1 h2, h3⟩
          · rw [if_pos h3] at hE; cases hE
        · rw [if_pos h2] at hE; exact absurd hE h2
      · rw [h1, if_pos (by decide)] at hE; cases hE
    obtain ⟨hm, hp, hl⟩ := hgood
    obtain ⟨q1, q2, q3, q4, q5⟩ := mayM_iff' hm
    obtain ⟨r, rfl⟩ : ∃ r : Nat, R = r := ⟨R.toNat, by omega⟩
    obtain ⟨c, rfl⟩ : ∃ c : Nat, C = c := ⟨C.toNat, by omega⟩
    have hl' : ps.length = r := by omega
    have hmn : m = r * c := by rw [← Int.natCast_mul] at q5; omega
    have hrc : r * c ≤ 4096 := by have := Nat.mul_le_mul (show r ≤ 64 by omega) (show c ≤ 64 by omega); omega
    have h0 : 0 < r * c := Nat.mul_pos (by omega) (by omega)
    have HR := Lib.hid (fun (W : World) (h : Below w.heap.size w W) => perm_rows (hA.behind h) (hP.behind h) hpn hm hp hl')
    have HV := Lib.hid (fun (W : World) (h : Below w.heap.size w W) => perm_inverse (hP.behind h))
    rw [chkP_perm.2 hp] at HV
    have hIv : invE ps = invZ ps ps.length := by unfold invE; rw [hp, if_pos rfl]
    rw [hIv] at HV
    rw [show chkM r c m = 0 by unfold chkM; rw [hm]; rfl] at HC
    rw [hp] at HI
    have HIP := Lib.hid (invZ_perm hp)
    have HIL := Lib.hid (invZ_length ps ps.length)
    have HBK := Lib.hid (rows_back (xs := xs) (C := c) hp hl' (by omega))
    have HPT := Lib.hid (fun i k hi hz => @rows_part xs r c i k ps hi hz)
    have HZ : Hid (∀ k, k < r → 0 ≤ zat ps k ∧ zat ps k < r) := Lib.hid (fun k hk => by have := ((permB_iff.1 hp).2 k (by omega)).1; omega)
    have HAA := Lib.hid hA
    obtain ⟨S, a', c', hS, e, hcap, HA⟩ := hA.opened
    simp only [Value.slice.injEq] at e
    obtain ⟨rfl, -, rfl⟩ := e
    obtain ⟨off, rfl, _⟩ := HA.out w (Below.refl _ _) 0 (by omega)
    obtain ⟨T, b1, c1, hT, rfl, hc1, HB⟩ := hP.opened
    have c00 := G1.cell (i := 0) rfl
    have c01 := G1.cell (i := 1) rfl
    have c02 := G1.cell (i := 2) rfl
    have HM := Lib.hid (And.intro hm (And.intro hmn (And.intro hrc h0)))
    have HX := Lib.hid hxl
    have HLP := Lib.hid hl'
    have hcp : m ≤ cap := by omega
    have HCP := Lib.hid hcp
    rw [hl'] at HB HI HR HV HIP HIL HBK ⊢
    have hrow : (tab r c (rowG xs c ps)).length ≤ 17592186044416 := by rw [tab_length]; omega
    have HROW := Lib.hid hrow
    clear hm hp hl hl' q5 hmn hrc h0 hA hP hIv hcap hc1 hE hpn hxl hcp hrow
    go_enter Try.func6, Try.ntmps6
    go_wp2_with fail
    generalize w.alloc (.cells #[.int .i64 (r : Int), .int .i64 (c : Int), .slice (some ⟨S, off, none⟩) m cap] 41) = W0 at *
    refine (hal _).mono ?_
    rintro e W1 ⟨rfl, b1'⟩
    replace B := below_both B b1'
    replace G1 := G1.behind b1'
    have c00 := G1.cell (i := 0) rfl
    have c01 := G1.cell (i := 1) rfl
    have c02 := G1.cell (i := 2) rfl
    go_wp2_with fail
    refine (HR.out _ B).mono ?_
    rintro e W2 ⟨ba, bc, rfl, hN, b2⟩
    replace B := below_both B b2
    replace G1 := G1.behind b2
    clear HR hal b1'
    obtain ⟨bx, G2⟩ := mbox W2 #[.int .i64 (r : Int), .int .i64 (c : Int), .slice ba (r * c) bc] 41 _ rfl
    have gz := (mbox W2 #[.int .i64 0, .int .i64 0, .slice none 0 0] 41 _ rfl).2
    have g0 := gz.cell (i := 0) rfl
    have g1 := gz.cell (i := 1) rfl
    have g2 := gz.cell (i := 2) rfl
    have f0 := gz.f 0
    have f1 := gz.f 1
    have f2 := gz.f 2
    replace G1 := G1.behind bx
    have d00 := G1.cell (i := 0) rfl
    have d01 := G1.cell (i := 1) rfl
    have d02 := G1.cell (i := 2) rfl
    have HNA := Lib.hid (hN.arg.behind bx)
    replace B := below_both B bx
    clear hN
    go_wp2_with fail
    generalize W2.alloc (.cells #[.int .i64 (r : Int), .int .i64 (c : Int), .slice ba (r * c) bc] 41) = W3 at *
    generalize W2.heap.size = g at *
    clear bx gz g0 g1 g2 f0 f1 f2 c00 c01 c02 b2
    refine (HC.out _).mono ?_
    rintro e W4 ⟨rfl, b4⟩
    replace B := below_both B b4
    replace G1 := G1.behind b4
    replace G2 := G2.behind b4
    have HNB := Lib.hid (HNA.out.behind b4)
    clear HC HNA d00 d01 d02 b4
    have d00 := G1.cell (i := 0) rfl
    go_wp2_with fail
    refine (HI.out _ B).mono ?_
    rintro e W5 ⟨rfl, rfl⟩
    clear HI
    have dr : ((r : Int) != (r : Int)) = false := by simp
    obtain ⟨U, b', cb', hU, e, hcb, HN⟩ := HNB.out.opened
    simp only [Value.slice.injEq, tab_length] at e
    obtain ⟨rfl, -, rfl⟩ := e
    obtain ⟨ob, rfl, _⟩ := HN.out W4 (Below.refl _ _) 0 (by rw [tab_length]; exact HM.out.2.2.2)
    rw [tab_length] at hcb
    have HCB : Hid (r * c ≤ bc) := Lib.hid (by have := HM.out.2.2.2; omega)
    clear hcb hU
    have HT : Hid (∀ W, Below W4.heap.size W4 W → ∀ k, k < r → ∃ o, b1 = some ⟨T, o, none⟩ ∧ W.cell? ⟨T, o + k, none⟩ = some (.int .i64 (zat ps k))) := Lib.hid (fun W h k hk => HB.out W (below_both B h) k hk)
    go_wp2
    go_loopw [7] (fun i wr => ∃ k : Nat, k ≤ r ∧ i = .int .i64 k ∧ Below W4.heap.size W4 wr) (fun i _ => r - (intOf i).toNat)
    case atStart => exact ⟨0, Nat.zero_le _, rfl, Below.refl _ _⟩
    case round =>
      obtain ⟨k, hk, rfl, hB⟩ := hrel
      by_cases hlt : k < r
      · obtain ⟨ot, rfl, kt⟩ := HT.out wr hB k hlt
        have hz := HZ.out k hlt
        obtain ⟨q, hq⟩ : ∃ q : Nat, zat ps k = (q : Int) := ⟨(zat ps k).toNat, by omega⟩
        have hqr : q < r := by omega
        have HPE := Lib.hid (HPT.out k q hlt hq)
        rw [hq] at kt hz
        have hrc := HM.out.2.2.1
        have hmn := HM.out.2.1
        have hmc := HCP.out
        have hbc := HCB.out
        have m1 : q * c + c ≤ r * c := by
          have := Nat.mul_le_mul_right c (show q + 1 ≤ r from hqr)
          rw [Nat.add_mul, Nat.one_mul] at this
          exact this
        have m2 : k * c + c ≤ r * c := by
          have := Nat.mul_le_mul_right c (show k + 1 ≤ r from hlt)
          rw [Nat.add_mul, Nat.one_mul] at this
          exact this
        obtain ⟨P, hP⟩ : ∃ P, P = q * c := ⟨_, rfl⟩
        obtain ⟨Q, hQ⟩ : ∃ Q, Q = q * c + c := ⟨_, rfl⟩
        obtain ⟨P2, hP2⟩ : ∃ P, P = k * c := ⟨_, rfl⟩
        obtain ⟨Q2, hQ2⟩ : ∃ Q, Q = k * c + c := ⟨_, rfl⟩
        have e1 : IntKind.i64.wrap ((q : Int) * (c : Int)) = (P : Int) := by rw [← Int.natCast_mul, ← hP]; exact IntWalk.i64_in _ (by omega)
        have e2 : IntKind.i64.wrap (((q : Int) + 1) * (c : Int)) = (Q : Int) := by
          rw [show ((q : Int) + 1) * (c : Int) = (Q : Int) by rw [Int.add_mul, Int.one_mul, ← Int.natCast_mul, hQ, Int.natCast_add]]
          exact IntWalk.i64_in _ (by omega)
        have e3 : IntKind.i64.wrap ((k : Int) * (c : Int)) = (P2 : Int) := by rw [← Int.natCast_mul, ← hP2]; exact IntWalk.i64_in _ (by omega)
        have e4 : IntKind.i64.wrap (((k : Int) + 1) * (c : Int)) = (Q2 : Int) := by
          rw [show ((k : Int) + 1) * (c : Int) = (Q2 : Int) by rw [Int.add_mul, Int.one_mul, ← Int.natCast_mul, hQ2, Int.natCast_add]]
          exact IntWalk.i64_in _ (by omega)
        have e5 : IntKind.i64.wrap ((q : Int) + 1) = (q : Int) + 1 := IntWalk.i64_in _ (by omega)
        have e6 : IntKind.i64.wrap ((k : Int) + 1) = (k : Int) + 1 := IntWalk.i64_in _ (by omega)
        have g1 : (P : Int) ≤ (Q : Int) := by omega
        have g2 : (Q : Int) ≤ (cap : Int) := by omega
        have g3 : Q - P = c := by omega
        have g4 : P ≤ cap := by omega
        have g5 : (P2 : Int) ≤ (Q2 : Int) := by omega
        have g6 : (Q2 : Int) ≤ (bc : Int) := by omega
        have g7 : Q2 - P2 = c := by omega
        have g8 : P2 ≤ bc := by omega
        have n1 : ¬ bc = P2 := by omega
        have n2 : ¬ cap = P := by omega
        have hxm := HX.out
        have A1 := Lib.hid ((HNB.out).part (o := P2) (k := c) (cap' := bc - P2) (by rw [tab_length]; omega) (by omega))
        have A2 := Lib.hid ((HAA.out.behind B).part (o := P) (k := c) (cap' := cap - P) (by omega) (by omega))
        rw [hP2, HPE.out, ← hP2, ← hP] at A1
        have hpl : (partW xs P c).length ≤ 17592186044416 := by rw [partW_length]; omega
        have HSM := Lib.hid (fun (W : World) (h : Below W4.heap.size W4 W) => same_args (A1.out.behind h) (A2.out.behind h) hpl)
        have HK : Hid (∀ W, Below W4.heap.size W4 W → W.cell? ⟨T, ot + k, none⟩ = some (.int .i64 (q : Int)) ∧ W.cell? ⟨w.heap.size, 1, none⟩ = some (.int .i64 (c : Int)) ∧ W.cell? ⟨w.heap.size, 2, none⟩ = some (.slice (some ⟨S, off, none⟩) m cap) ∧ W.cell? ⟨g, 2, none⟩ = some (.slice (some ⟨U, ob, none⟩) (r * c) bc)) := Lib.hid (fun W h => by
          refine ⟨?_, (G1.behind h).cell (i := 1) rfl, (G1.behind h).cell (i := 2) rfl, (G2.behind h).cell (i := 2) rfl⟩
          obtain ⟨o2, e, h2⟩ := HT.out W h k hlt
          simp only [Option.some.injEq, Addr.mk.injEq] at e
          obtain ⟨_, rfl, _⟩ := e
          rw [h2, hq])
        have hq1 : (q : Int) ≤ 63 := by omega
        have hk1 : (k : Int) ≤ 63 := by omega
        have hlt2 : (k : Int) < (r : Int) := by omega
        have e00 := (G1.behind hB).cell (i := 0) rfl
        have Br : Below W4.heap.size W4 wr := hB
        clear hz hq hP hQ hP2 hQ2 m1 m2 hrc hmn hmc hbc hxm A1 A2 hpl HPE
        go_wp2_with fail
        go_region_held3 (fun w' => w'.cell? ⟨T, ot + k, none⟩ = some (.int .i64 (q : Int)) ∧ w'.cell? ⟨w.heap.size, 1, none⟩ = some (.int .i64 (c : Int)) ∧ w'.cell? ⟨w.heap.size, 2, none⟩ = some (.slice (some ⟨S, off, none⟩) m cap) ∧ w'.cell? ⟨g, 2, none⟩ = some (.slice (some ⟨U, ob, none⟩) (r * c) bc))
          (first | with_reducible exact HK.out _ Br | with_reducible exact HK.out _ Br.drew | (refine ⟨?_, ?_, ?_, ?_⟩ <;> go_keep))
          (first
            | (go_at_call 29; (first | (with_reducible refine (HSM.out _ Br).mono ?_) | (with_reducible refine (HSM.out _ Br.drew).mono ?_)); rintro e v4 ⟨rfl, bz⟩; replace Br : Below W4.heap.size W4 v4 := (by first | with_reducible exact below_both Br bz | with_reducible exact below_both Br.drew bz); clear bz))
        go_wp2
        go_roundw
        case rel => exact ⟨k + 1, by omega, by simp, Br⟩
        case measure => simp [intOf]; omega
      · obtain rfl : k = r := by omega
        clear hlt
        have e00 := (G1.behind hB).cell (i := 0) rfl
        have B2 := below_both B hB
        clear HT HZ HPT HN
        go_wp2_with fail
        refine (HV.out _ B2).mono ?_
        rintro e W6 ⟨vi, rfl, oi, b6⟩
        have AI := oi.arg (Nat.lt_of_lt_of_le hpos (below_both B2 b6).size)
        replace B2 := below_both B2 b6
        have hB6 := below_both hB b6
        have HRR := Lib.hid (perm_rows (R := k) (C := c) (HNB.out.behind hB6) AI (by rw [HIL.out]; omega) (by rw [← HM.out.2.1]; exact HM.out.1) HIP.out (by rw [HIL.out]))
        clear HV oi AI b6
        have e02 := (G2.behind hB6).cell (i := 2) rfl
        have e20 := (G2.behind hB6).cell (i := 0) rfl
        have e21 := (G2.behind hB6).cell (i := 1) rfl
        go_wp2_with fail
        refine HRR.out.mono ?_
        rintro e W7 ⟨da, dc, rfl, hD, b7⟩
        obtain ⟨bz, G3⟩ := mbox W7 #[.int .i64 (k : Int), .int .i64 (c : Int), .slice da (k * c) dc] 41 _ rfl
        have gz := (mbox W7 #[.int .i64 0, .int .i64 0, .slice none 0 0] 41 _ rfl).2
        have g0 := gz.cell (i := 0) rfl
        have g1 := gz.cell (i := 1) rfl
        have g2 := gz.cell (i := 2) rfl
        have f0 := gz.f 0
        have f1 := gz.f 1
        have f2 := gz.f 2
        have hB8 := below_both (below_both hB6 b7) bz
        have h00 := (G1.behind hB8).cell (i := 0) rfl
        have h01 := (G1.behind hB8).cell (i := 1) rfl
        have h02 := (G1.behind hB8).cell (i := 2) rfl
        have h30 := G3.cell (i := 0) rfl
        have h31 := G3.cell (i := 1) rfl
        have h32 := G3.cell (i := 2) rfl
        have B3 := below_both (below_both B2 b7) bz
        have hD2 := hD.arg.behind bz
        have hbk := HBK.out
        have HSS := Lib.hid (shape_same (R := (k : Int)) (C := (c : Int)) (R' := (k : Int)) (C' := (c : Int)) (HAA.out.behind B3) (hD2) (by rw [← HX.out, HM.out.2.1]; have := HM.out.2.2.1; omega) (by rw [tab_length]; have := HM.out.2.2.1; omega))
        have hsame : sameM (k : Int) c k c xs (tab k c (rowG (tab k c (rowG xs c ps)) c (invZ ps k))) = true := by
          rw [hbk]; simp [sameM]
        rw [hsame] at HSS
        clear hD hD2 hbk hsame HRR HNB HAA HBK HX HM HIP HIL HROW
        go_wp2_with fail
        refine HSS.out.mono ?_
        rintro e W9 ⟨rfl, b9⟩
        go_wp2
        go_ret
        exact ⟨rfl, below_both B3 b9⟩
  · have HR := Lib.hid (fun (W : World) (h : Below w.heap.size w W) => perm_rows_no (R := R) (C := C) (m := m) (a := a) (cap := cap) (hP.behind h) hE)
    obtain ⟨T, b1, c1, hT, rfl, hc1, HB⟩ := hP.opened
    have c00 := G1.cell (i := 0) rfl
    have c01 := G1.cell (i := 1) rfl
    have c02 := G1.cell (i := 2) rfl
    have hways : Hid (chkM R C m ≠ 0 ∧ rowsE R C m ps = 11 ∨ chkM R C m = 0 ∧ permB ps = false ∧ rowsE R C m ps = 9 ∨ chkM R C m = 0 ∧ permB ps = true ∧ (ps.length : Int) ≠ R ∧ rowsE R C m ps = 11) := Lib.hid (by
      unfold rowsE at hE ⊢
      rcases chkM_ways R C m with ⟨_, h1⟩ | ⟨_, h1⟩
      · right
        rw [h1, if_neg (by simp)] at hE ⊢
        cases hb : permB ps
        · left; refine ⟨rfl, rfl, ?_⟩; unfold chkP; rw [hb]; rfl
        · right
          have h2 : chkP ps = 0 := chkP_perm.2 hb
          rw [h2, if_neg (by simp)] at hE ⊢
          by_cases h3 : (ps.length : Int) = R
          · rw [if_neg (by simp [h3])] at hE; exact absurd rfl hE
          · exact ⟨rfl, rfl, h3, if_pos h3⟩
      · left; refine ⟨by rw [h1]; decide, ?_⟩; rw [h1]; rfl)
    clear hP hc1 hA hE hxl
    generalize rowsE R C m ps = E at *
    generalize chkM R C m = ck at *
    generalize permB ps = bp at *
    generalize ps.length = n at *
    go_enter Try.func6, Try.ntmps6
    go_wp2_with fail
    generalize w.alloc (.cells #[.int .i64 R, .int .i64 C, .slice a m cap] 41) = W0 at *
    refine (hal _).mono ?_
    rintro e W1 ⟨rfl, b1'⟩
    replace B := below_both B b1'
    replace G1 := G1.behind b1'
    have c00 := G1.cell (i := 0) rfl
    have c01 := G1.cell (i := 1) rfl
    have c02 := G1.cell (i := 2) rfl
    go_wp2_with fail
    refine (HR.out _ B).mono ?_
    rintro e W2 ⟨rfl, b2⟩
    replace B := below_both B b2
    replace G1 := G1.behind b2
    clear HR hal b1'
    have c00 := G1.cell (i := 0) rfl
    have c01 := G1.cell (i := 1) rfl
    have c02 := G1.cell (i := 2) rfl
    obtain ⟨bx, G2⟩ := mbox W2 #[.int .i64 0, .int .i64 0, .slice none 0 0] 41 _ rfl
    replace G1 := G1.behind bx
    replace B := below_both B bx
    have d00 := G1.cell (i := 0) rfl
    have d01 := G1.cell (i := 1) rfl
    have d02 := G1.cell (i := 2) rfl
    go_wp2_with fail
    generalize W2.alloc (.cells #[.int .i64 0, .int .i64 0, .slice none 0 0] 41) = W3 at *
    generalize W2.heap.size = g at *
    clear bx c00 c01 c02
    refine (HC.out _).mono ?_
    rintro e W4 ⟨rfl, b4⟩
    replace B := below_both B b4
    replace G1 := G1.behind b4
    replace G2 := G2.behind b4
    have g2 := G2.cell (i := 2) rfl
    clear HC d00 d01 d02
    rcases hways.out with ⟨h1, rfl⟩ | ⟨rfl, rfl, rfl⟩ | ⟨rfl, rfl, h3, rfl⟩
    · have d : (ck != 0) = true := bne_iff_ne.2 h1
      clear h1 HI hways
      go_wp2
      go_ret
      exact ⟨rfl, B⟩
    · clear hways
      go_wp2_with fail
      refine (HI.out _ B).mono ?_
      rintro e W5 ⟨rfl, rfl⟩
      go_wp2
      go_ret
      exact ⟨rfl, B⟩
    · have d : ((n : Int) != R) = true := bne_iff_ne.2 h3
      have c00 := G1.cell (i := 0) rfl
      clear h3 hways
      go_wp2_with fail
      refine (HI.out _ B).mono ?_
      rintro e W5 ⟨rfl, rfl⟩
      go_wp2
      go_ret
      exact ⟨rfl, B⟩
end Go.Proofs.Ytgppbimbampenaa
