/- vernierlaw23: told; NormTells, walked. -/
import Derived.Test.YtjiilechfjkkfaaNoLess
import Derived.Deep.CutRange
namespace Go.Proofs.Ytjiilechfjkkfaa
open Go.RowKit Go.Shelf
theorem l23_told {v : Nat} {w : World} (hv : (v : Int) ≤ 18446744073709551615) : Calls Try.prog 45 #[.int .u64 (tolR 0 v : Int), .int .i64 (tolE 0 v), .int .u64 (v : Int)] w fun e W' => e = .returned (.bool true) ∧ w = W' := by
  have hc := class6 (a := v) (W := w) hv
  rcases tol_ways v with ⟨h1, h2, h3⟩ | ⟨h1, h2, h3⟩
  · have hd : decide ((1 : Int) < (cls v : Int)) = false := decide_eq_false (by omega)
    rw [h2, h3]
    clear h1 h2 h3
    generalize cls v = c at *
    go_enter Try.func45, Try.ntmps45
    go_wp2_with fail
    refine hc.mono ?_
    rintro e w1 ⟨rfl, rfl⟩
    clear hc
    go_wp2
    go_ret
    exact ⟨rfl, rfl⟩
  · have hd : decide ((1 : Int) < (cls v : Int)) = true := decide_eq_true (by omega)
    rw [h2, h3]
    clear h1 h2 h3
    generalize cls v = c at *
    go_enter Try.func45, Try.ntmps45
    go_wp2_with fail
    refine hc.mono ?_
    rintro e w1 ⟨rfl, rfl⟩
    clear hc
    go_wp2
    go_ret
    exact ⟨rfl, rfl⟩
theorem max_u64 (w : World) (ts : Array TypeId) (t : TypeId) (x y : Nat) : (Builtin.max_ ts t #[.int .u64 (x : Int), .int .u64 (y : Int)]).run Try.prog w = .ok (.int .u64 ((max x y : Nat) : Int)) w := by
  have e1 : ((max x y : Nat) : Int) = if (y : Int) > (x : Int) then (y : Int) else (x : Int) := by split <;> omega
  rw [e1]
  simp [Builtin.max_, Builtin.max2]
set_option maxRecDepth 100000 in
set_option maxHeartbeats 16000000 in
theorem normTells_calls {R C : Int} {a : Option Addr} {m cap : Nat} {xs : List Nat} {w : World} (hA : Arg w (.slice a m cap) xs) (hx : Low 18446744073709551616 xs) (hn : xs.length ≤ 17592186044416) :
    Calls Try.prog 8 #[.agg #[.int .i64 R, .int .i64 C, .slice a m cap]] w fun e W' => e = .returned (.bool true) ∧ Below w.heap.size w W' := by
  obtain ⟨B, G⟩ := mbox w #[.int .i64 R, .int .i64 C, .slice a m cap] 24 _ rfl
  have hal := l23_alive
  have HF := Lib.hid (fun (W : World) (h : Below w.heap.size w W) => shape_finite (R := R) (C := C) (hA.behind h) hx)
  have HM := Lib.hid (fun (W : World) (h : Below w.heap.size w W) => norm_max (R := R) (C := C) (hA.behind h) hx hn)
  have HO := Lib.hid (fun (W : World) (h : Below w.heap.size w W) => norm_one (R := R) (C := C) (hA.behind h) hx)
  have HI := Lib.hid (fun (W : World) (h : Below w.heap.size w W) => norm_inf (R := R) (C := C) (hA.behind h) hx)
  have HB := Lib.hid (fun (W : World) (h : Below w.heap.size w W) => norm_frob (R := R) (C := C) (hA.behind h) hx)
  have hmx : m = xs.length := by
    obtain ⟨a', c', e⟩ := hA.slice
    simp only [Value.slice.injEq] at e
    omega
  have c0 := G.cell (i := 0) rfl
  have c1 := G.cell (i := 1) rfl
  have c2 := G.cell (i := 2) rfl
  by_cases hf : finM R C m xs = 0
  · have hfa := fin_all hf hmx
    obtain ⟨q1, q2, q3, q4, q5, q6, q7, q8⟩ := finM_may0 hf
    obtain ⟨r, rfl⟩ : ∃ r : Nat, R = r := ⟨R.toNat, by omega⟩
    obtain ⟨c, rfl⟩ : ∃ r : Nat, C = r := ⟨C.toNat, by omega⟩
    have hmn : m = r * c := by rw [← Int.natCast_mul] at q5; omega
    have hr64 : r ≤ 64 := by omega
    have hc64 : c ≤ 64 := by omega
    rw [hf] at HF HM HO HI HB
    rw [← hmx] at HM
    rw [Int.toNat_natCast, Int.toNat_natCast] at HO HI
    obtain ⟨m1, m2, m3, m4⟩ := max_fin hfa
    obtain ⟨e1, e2⟩ : tolE 0 (maxU xs m) = 0 ∧ tolR 0 (maxU xs m) = maxU xs m := by
      rcases tol_ways (maxU xs m) with ⟨_, e1, e2⟩ | ⟨q, _⟩
      · exact ⟨e1, e2⟩
      · exact absurd m2 q
    rw [e1, e2] at HM
    have hpt : ∀ k, k < m → Pos (mag (lim xs k)) := fun k hk => (fin_mag (hfa k hk)).1
    have HIX : Hid (∀ i j, i < r → j < c → i * c + j < m) := Lib.hid (fun i j hi hj => by
      have := Nat.mul_le_mul_right c (show i + 1 ≤ r from hi)
      rw [Nat.add_mul, Nat.one_mul] at this
      omega)
    have HMB : Hid (∀ k, k < m → mag (lim xs k) ≤ 9223372036854775807) := Lib.hid (fun k hk => by have := hpt k hk; unfold Pos at this; omega)
    obtain ⟨g0, hg0⟩ : ∃ g : Nat → Nat, g = mx (fun k => mag (lim xs k)) := ⟨_, rfl⟩
    have A0 : Hid (g0 0 = 0 ∧ (∀ k, g0 (k + 1) = max (g0 k) (mag (lim xs k))) ∧ g0 m = maxU xs m ∧ ∀ k, k ≤ m → g0 k ≤ 18446744073709551615) := Lib.hid ⟨by rw [hg0]; rfl, fun k => by rw [hg0]; rfl, by rw [hg0, m1], fun k hk => by rw [hg0]; have := mx_pos (f := fun k => mag (lim xs k)) (n := k) (fun j hj => hpt j (by omega)); unfold Pos at this; omega⟩
    obtain ⟨gs, hgs⟩ : ∃ g : Nat → Nat, g = sqS xs := ⟨_, rfl⟩
    have AS : Hid (gs 0 = 0 ∧ (∀ k, gs (k + 1) = plusU (gs k) (timesU (lim xs k) (lim xs k))) ∧ gs m = sqS xs m ∧ ∀ k, gs k ≤ 18446744073709551615) := Lib.hid ⟨by rw [hgs]; rfl, fun k => by rw [hgs]; rfl, by rw [hgs], fun k => by rw [hgs]; exact sumS_lt fun j _ => timesU_lt _ _⟩
    obtain ⟨sr, hsr⟩ : ∃ g : Nat → Nat → Nat, g = fun k => sumS (rowF xs r c k) := ⟨_, rfl⟩
    have hsrp : ∀ k j, k < r → j ≤ c → Pos (sr k j) := fun k j hk hj => by rw [hsr]; exact (sumS_pos fun t ht => hpt _ (HIX.out k t hk (by omega))).1
    have AR : Hid ((∀ k, sr k 0 = 0) ∧ (∀ k j, sr k (j + 1) = plusU (sr k j) (mag (lim xs (k * c + j)))) ∧ ∀ k j, k < r → j ≤ c → sr k j ≤ 18446744073709551615) := Lib.hid ⟨fun k => by rw [hsr]; rfl, fun k j => by rw [hsr]; rfl, fun k j hk hj => by have := hsrp k j hk hj; unfold Pos at this; omega⟩
    obtain ⟨gr, hgr⟩ : ∃ g : Nat → Nat, g = mx (rowS xs r c) := ⟨_, rfl⟩
    have BR : Hid (gr 0 = 0 ∧ (∀ k, gr (k + 1) = max (gr k) (sr k c)) ∧ gr r = infV xs r c ∧ ∀ k, k ≤ r → gr k ≤ 18446744073709551615) := Lib.hid ⟨by rw [hgr]; rfl, fun k => by rw [hgr, hsr]; rfl, by rw [hgr]; rfl, fun k hk => by rw [hgr]; have := mx_pos (f := rowS xs r c) (n := k) (fun j hj => by have := hsrp j c (by omega) (Nat.le_refl _); rw [hsr] at this; exact this); unfold Pos at this; omega⟩
    obtain ⟨sc, hsc⟩ : ∃ g : Nat → Nat → Nat, g = fun k => sumS (colF xs r c k) := ⟨_, rfl⟩
    have hscp : ∀ k j, k < c → j ≤ r → Pos (sc k j) := fun k j hk hj => by rw [hsc]; exact (sumS_pos fun t ht => hpt _ (HIX.out t k (by omega) hk)).1
    have AC : Hid ((∀ k, sc k 0 = 0) ∧ (∀ k j, sc k (j + 1) = plusU (sc k j) (mag (lim xs (j * c + k)))) ∧ ∀ k j, k < c → j ≤ r → sc k j ≤ 18446744073709551615) := Lib.hid ⟨fun k => by rw [hsc]; rfl, fun k j => by rw [hsc]; rfl, fun k j hk hj => by have := hscp k j hk hj; unfold Pos at this; omega⟩
    obtain ⟨gc, hgc⟩ : ∃ g : Nat → Nat, g = mx (colS xs r c) := ⟨_, rfl⟩
    have BC : Hid (gc 0 = 0 ∧ (∀ k, gc (k + 1) = max (gc k) (sc k r)) ∧ gc c = oneV xs r c ∧ ∀ k, k ≤ c → gc k ≤ 18446744073709551615) := Lib.hid ⟨by rw [hgc]; rfl, fun k => by rw [hgc, hsc]; rfl, by rw [hgc]; rfl, fun k hk => by rw [hgc]; have := mx_pos (f := colS xs r c) (n := k) (fun j hj => by have := hscp j r (by omega) (Nat.le_refl _); rw [hsc] at this; exact this); unfold Pos at this; omega⟩
    have HXL := Lib.hid (fun k => lim_lt hx (by decide : 0 < 18446744073709551616) k)
    obtain ⟨S, a', c'', hS, e, hcap, HX⟩ := hA.opened
    simp only [Value.slice.injEq] at e
    obtain ⟨rfl, -, rfl⟩ := e
    rw [← hmx] at HX
    have hm4 : (m : Int) ≤ 4096 := by omega
    have hr63 : (r : Int) ≤ 64 := by omega
    have hc63 : (c : Int) ≤ 64 := by omega
    have HT1 := Lib.hid (fun w (h : (gc c : Int) ≤ 18446744073709551615) => l23_told (v := gc c) (w := w) h)
    have HT2 := Lib.hid (fun w (h : (gr r : Int) ≤ 18446744073709551615) => l23_told (v := gr r) (w := w) h)
    have HT3 := Lib.hid (fun w (h : (gs m : Int) ≤ 18446744073709551615) => l23_told (v := gs m) (w := w) h)
    rw [← A0.out.2.2.1] at HM
    rw [← BC.out.2.2.1] at HO
    rw [← BR.out.2.2.1] at HI
    rw [← AS.out.2.2.1] at HB
    clear hf hfa q1 q2 q3 q4 q5 q6 q7 q8 hmn m1 m2 m3 m4 e1 e2 hpt hg0 hgs hsr hsrp hgr hsc hscp hgc hA hx hn hcap hmx
    go_enter Try.func8, Try.ntmps8
    go_wp2_with fail
    generalize w.alloc (.cells #[.int .i64 (r : Int), .int .i64 (c : Int), .slice a m cap] 24) = W0 at *
    refine (hal _).mono ?_
    rintro e w1 ⟨rfl, b1⟩
    replace B := below_both B b1
    replace G := G.behind b1
    have c0 := G.cell (i := 0) rfl
    have c1 := G.cell (i := 1) rfl
    have c2 := G.cell (i := 2) rfl
    clear hal b1
    go_wp2_with fail
    refine (HM.out _ B).mono ?_
    rintro e w2 ⟨rfl, b2⟩
    replace B := below_both B b2
    replace G := G.behind b2
    have c0 := G.cell (i := 0) rfl
    have c1 := G.cell (i := 1) rfl
    have c2 := G.cell (i := 2) rfl
    clear b2 HM
    go_wp2_with fail
    refine (HO.out _ B).mono ?_
    rintro e w3 ⟨rfl, b3⟩
    replace B := below_both B b3
    replace G := G.behind b3
    have c0 := G.cell (i := 0) rfl
    have c1 := G.cell (i := 1) rfl
    have c2 := G.cell (i := 2) rfl
    clear b3 HO
    go_wp2_with fail
    refine (HI.out _ B).mono ?_
    rintro e w4 ⟨rfl, b4⟩
    replace B := below_both B b4
    replace G := G.behind b4
    have c0 := G.cell (i := 0) rfl
    have c1 := G.cell (i := 1) rfl
    have c2 := G.cell (i := 2) rfl
    clear b4 HI
    go_wp2_with fail
    refine (HB.out _ B).mono ?_
    rintro e w5 ⟨rfl, b5⟩
    replace B := below_both B b5
    replace G := G.behind b5
    have c0 := G.cell (i := 0) rfl
    have c1 := G.cell (i := 1) rfl
    have c2 := G.cell (i := 2) rfl
    clear b5 HB
    go_wp2_with fail
    refine (HF.out _ B).mono ?_
    rintro e w6 ⟨rfl, b6⟩
    replace B := below_both B b6
    replace G := G.behind b6
    have c0 := G.cell (i := 0) rfl
    have c1 := G.cell (i := 1) rfl
    have c2 := G.cell (i := 2) rfl
    clear b6 HF
    clear c0 c1 c2
    go_upto_block 0 with (fail)
    go_cut [12, 15] from 16 to 113 (fun b s wx => b = .int .u64 (g0 m : Int) ∧ s = .int .u64 (gs m : Int) ∧ Below w6.heap.size w6 wx)
    case first =>
     as_aux_lemma =>
      go_wp2_with fail
      go_loopw [12, 15, 16] (fun b s i wr => ∃ k nb ns : Nat, k ≤ m ∧ i = .int .i64 k ∧ b = .int .u64 (nb : Int) ∧ s = .int .u64 (ns : Int) ∧ Hid (nb = g0 k) ∧ Hid (ns = gs k) ∧ Below w6.heap.size w6 wr) (fun _ _ i _ => m - (intOf i).toNat)
      case atStart => exact ⟨0, 0, 0, Nat.zero_le _, rfl, rfl, rfl, Lib.hid A0.out.1.symm, Lib.hid AS.out.1.symm, Below.refl _ _⟩
      case round =>
        obtain ⟨k, nb, ns, hk, rfl, rfl, rfl, HNB, HNS, hB⟩ := hrel
        have c2 : wr.cell? ⟨w.heap.size, 2, none⟩ = some (.slice a m cap) := (G.behind hB).cell (i := 2) rfl
        by_cases hlt : k < m
        · obtain ⟨oa, rfl, ka⟩ := HX.out wr (below_both B hB) k hlt
          have n1 := not_top (HXL.out k)
          have h1 := HXL.out k
          have h2 := HMB.out k hlt
          have h3 : (ns : Int) ≤ 18446744073709551615 := by have := AS.out.2.2.2 k; rw [← HNS.out] at this; omega
          have E1 : Hid (g0 (k + 1) = max nb (mag (lim xs k))) := Lib.hid (by rw [A0.out.2.1, HNB.out])
          have E2 : Hid (gs (k + 1) = plusU ns (timesU (lim xs k) (lim xs k))) := Lib.hid (by rw [AS.out.2.1, HNS.out])
          have hM1 := fun w => fmul_mul (a := lim xs k) (b := lim xs k) (mode := 0) (w := w) (by omega) (by omega)
          rw [show (rmul (lim xs k) (lim xs k) 0).1 = timesU (lim xs k) (lim xs k) from rfl] at hM1
          have ht := timesU_lt (lim xs k) (lim xs k)
          have mm1 : lim xs k % 9223372036854775808 = mag (lim xs k) := rfl
          rw [mm1] at n1
          have hSr := Nat.lt_of_lt_of_le hS (below_both B hB).size
          have hGr := Nat.lt_of_lt_of_le G.lt hB.size
          generalize lim xs k = x at *
          generalize (rmul x x 0).2 = fl1 at *
          generalize timesU x x = t at *
          have hA1 := fun w => fadd_add (a := ns) (b := t) (mode := 0) (w := w) h3 (by omega)
          rw [show (radd ns t 0).1 = plusU ns t from rfl] at hA1
          generalize (radd ns t 0).2 = fl2 at *
          generalize plusU ns t = s1 at *
          generalize mag x = mg at *
          have hmax : ∀ (w : World) (ts : Array TypeId) (ty : TypeId), (Builtin.max_ ts ty #[.int .u64 (nb : Int), .int .u64 (mg : Int)]).run Try.prog w = .ok (.int .u64 ((max nb mg : Nat) : Int)) w := fun w ts ty => max_u64 w ts ty nb mg
          generalize max nb mg = z at *
          have HM1 := Lib.hid hM1
          have HA1 := Lib.hid hA1
          clear hM1 hA1 h1 h2 h3 ht mm1
          have Br : Below wr.heap.size wr wr := Below.refl _ _
          go_wp2_with fail
          go_region_held3 (fun W => W.cell? ⟨w.heap.size, 2, none⟩ = some (.slice (some ⟨S, oa, none⟩) m cap) ∧ W.cell? ⟨S, oa + k, none⟩ = some (.int .u64 (x : Int)))
            (first | with_reducible exact ⟨(Br.cell (p := ⟨w.heap.size, 2, none⟩) hGr).trans c2, (Br.cell (p := ⟨S, oa + k, none⟩) hSr).trans ka⟩ | with_reducible exact ⟨(Br.drew.cell (p := ⟨w.heap.size, 2, none⟩) hGr).trans c2, (Br.drew.cell (p := ⟨S, oa + k, none⟩) hSr).trans ka⟩ | (refine ⟨?_, ?_⟩ <;> go_keep))
            (first
              | (go_at_call 29; (with_reducible refine (HM1.out _).mono ?_); rintro e v4 ⟨rfl, bz⟩; replace Br : Below wr.heap.size wr v4 := (by first | with_reducible exact below_both Br bz | with_reducible exact below_both Br.drew bz); clear bz))
          go_wp2_with fail
          refine (HA1.out _).mono ?_
          rintro e v5 ⟨rfl, b5⟩
          have hB5 := below_both hB (below_both Br b5)
          go_wp2
          exact ⟨⟨k + 1, z, s1, by omega, by simp, rfl, rfl, Lib.hid E1.out.symm, Lib.hid E2.out.symm, hB5⟩, by simp [intOf]; omega⟩
        · obtain rfl : k = m := by omega
          obtain rfl := HNB.out
          obtain rfl := HNS.out
          clear hlt
          go_wp2_with fail
          go_meet
          exact ⟨rfl, rfl, hB⟩
    obtain ⟨rfl, rfl, hB7⟩ := hcut
    obtain ⟨w7, rfl⟩ : ∃ w7, w7 = wc := ⟨_, rfl⟩
    replace B := below_both B hB7
    replace G := G.behind hB7
    clear hB7
    go_upto_block 2 with (fail)
    go_cut [13] from 19 to 144 (fun q wx => q = .int .u64 (gr r : Int) ∧ Below w7.heap.size w7 wx)
    case first =>
     as_aux_lemma =>
      go_wp2_with fail
      go_loopw [13, 19] (fun q i wr => ∃ k nq : Nat, k ≤ r ∧ i = .int .i64 k ∧ q = .int .u64 (nq : Int) ∧ Hid (nq = gr k) ∧ Below w7.heap.size w7 wr) (fun _ i _ => r - (intOf i).toNat)
      case atStart => exact ⟨0, 0, Nat.zero_le _, rfl, rfl, Lib.hid BR.out.1.symm, Below.refl _ _⟩
      case round =>
        obtain ⟨i, nq, hi, rfl, rfl, HNQ, hB⟩ := hrel
        have c0 : wr.cell? ⟨w.heap.size, 0, none⟩ = some (.int .i64 (r : Int)) := (G.behind hB).cell (i := 0) rfl
        have c1 : wr.cell? ⟨w.heap.size, 1, none⟩ = some (.int .i64 (c : Int)) := (G.behind hB).cell (i := 1) rfl
        by_cases hlt : i < r
        · obtain ⟨wo, rfl⟩ : ∃ wo, wo = wr := ⟨_, rfl⟩
          go_wp2_with fail
          go_loopw [20, 21] (fun sv jv wx => ∃ j nx : Nat, j ≤ c ∧ jv = .int .i64 j ∧ sv = .int .u64 (nx : Int) ∧ Hid (nx = sr i j) ∧ Below wo.heap.size wo wx) (fun _ jv _ => c - (intOf jv).toNat)
          case atStart => exact ⟨0, 0, Nat.zero_le _, rfl, rfl, Lib.hid (AR.out.1 i).symm, Below.refl _ _⟩
          case round =>
            obtain ⟨j, nx, hj, rfl, rfl, HNX, hB5⟩ := hrel
            have c0 : wr.cell? ⟨w.heap.size, 0, none⟩ = some (.int .i64 (r : Int)) := ((G.behind hB).behind hB5).cell (i := 0) rfl
            have c1 : wr.cell? ⟨w.heap.size, 1, none⟩ = some (.int .i64 (c : Int)) := ((G.behind hB).behind hB5).cell (i := 1) rfl
            have c2 : wr.cell? ⟨w.heap.size, 2, none⟩ = some (.slice a m cap) := ((G.behind hB).behind hB5).cell (i := 2) rfl
            have h3 : (nx : Int) ≤ 18446744073709551615 := by have := AR.out.2.2 i j hlt hj; rw [← HNX.out] at this; omega
            by_cases hjl : j < c
            · have hP := HIX.out i j hlt hjl
              obtain ⟨oa, rfl, ka⟩ := HX.out wr (below_both B (below_both hB hB5)) _ hP
              have n1 := not_top (HXL.out (i * c + j))
              have h2 := HMB.out _ hP
              have E1 : Hid (sr i (j + 1) = plusU nx (mag (lim xs (i * c + j)))) := Lib.hid (by rw [AR.out.2.1, HNX.out])
              obtain ⟨e1, e2⟩ := wplace (i := i) (C := c) (j := j) (by omega) hc64 (by omega)
              obtain ⟨P, hPP⟩ : ∃ P, P = i * c := ⟨_, rfl⟩
              rw [← hPP] at e1 e2 ka E1 hP n1 h2
              generalize hQ : P + j = Q at *
              have mm1 : lim xs Q % 9223372036854775808 = mag (lim xs Q) := rfl
              rw [mm1] at n1
              generalize lim xs Q = x at *
              generalize mag x = mg at *
              have hA1 := fun w => fadd_add (a := nx) (b := mg) (mode := 0) (w := w) h3 (by omega)
              rw [show (radd nx mg 0).1 = plusU nx mg from rfl] at hA1
              generalize (radd nx mg 0).2 = fl2 at *
              generalize plusU nx mg = s1 at *
              have hQm : (Q : Int) < (m : Int) := by omega
              have hi63 : (i : Int) ≤ 64 := by omega
              have hj63 : (j : Int) ≤ 64 := by omega
              have HA1 := Lib.hid hA1
              clear hA1 h2 h3 hPP hQ mm1
              go_wp2_with fail
              refine (HA1.out _).mono ?_
              rintro e v5 ⟨rfl, b5⟩
              have hB6 := below_both hB5 b5
              go_wp2
              exact ⟨⟨j + 1, s1, by omega, by simp, rfl, Lib.hid E1.out.symm, hB6⟩, by simp [intOf]; omega⟩
            · obtain rfl : j = c := by omega
              have E2 : Hid (gr (i + 1) = max nq nx) := Lib.hid (by rw [BR.out.2.1, HNQ.out, HNX.out])
              have hmax : ∀ (w : World) (ts : Array TypeId) (ty : TypeId), (Builtin.max_ ts ty #[.int .u64 (nq : Int), .int .u64 (nx : Int)]).run Try.prog w = .ok (.int .u64 ((max nq nx : Nat) : Int)) w := fun w ts ty => max_u64 w ts ty nq nx
              generalize max nq nx = z at *
              have hB6 := below_both hB hB5
              have hi63 : (i : Int) ≤ 64 := by omega
              clear hjl h3
              go_wp2
              exact ⟨⟨i + 1, z, by omega, by simp, rfl, Lib.hid E2.out.symm, hB6⟩, by simp [intOf]; omega⟩
        · obtain rfl : i = r := by omega
          obtain rfl := HNQ.out
          clear hlt
          go_wp2_with fail
          go_meet
          exact ⟨rfl, hB⟩
    obtain ⟨rfl, hB7⟩ := hcut
    obtain ⟨w8, rfl⟩ : ∃ w7, w7 = wc := ⟨_, rfl⟩
    replace B := below_both B hB7
    replace G := G.behind hB7
    clear hB7
    go_upto_block 6 with (fail)
    go_cut [14] from 22 to 175 (fun q wx => q = .int .u64 (gc c : Int) ∧ Below w8.heap.size w8 wx)
    case first =>
     as_aux_lemma =>
      go_wp2_with fail
      go_loopw [14, 22] (fun q i wr => ∃ k nq : Nat, k ≤ c ∧ i = .int .i64 k ∧ q = .int .u64 (nq : Int) ∧ Hid (nq = gc k) ∧ Below w8.heap.size w8 wr) (fun _ i _ => c - (intOf i).toNat)
      case atStart => exact ⟨0, 0, Nat.zero_le _, rfl, rfl, Lib.hid BC.out.1.symm, Below.refl _ _⟩
      case round =>
        obtain ⟨i, nq, hi, rfl, rfl, HNQ, hB⟩ := hrel
        have c0 : wr.cell? ⟨w.heap.size, 0, none⟩ = some (.int .i64 (r : Int)) := (G.behind hB).cell (i := 0) rfl
        have c1 : wr.cell? ⟨w.heap.size, 1, none⟩ = some (.int .i64 (c : Int)) := (G.behind hB).cell (i := 1) rfl
        by_cases hlt : i < c
        · obtain ⟨wo, rfl⟩ : ∃ wo, wo = wr := ⟨_, rfl⟩
          go_wp2_with fail
          go_loopw [23, 24] (fun sv jv wx => ∃ j nx : Nat, j ≤ r ∧ jv = .int .i64 j ∧ sv = .int .u64 (nx : Int) ∧ Hid (nx = sc i j) ∧ Below wo.heap.size wo wx) (fun _ jv _ => r - (intOf jv).toNat)
          case atStart => exact ⟨0, 0, Nat.zero_le _, rfl, rfl, Lib.hid (AC.out.1 i).symm, Below.refl _ _⟩
          case round =>
            obtain ⟨j, nx, hj, rfl, rfl, HNX, hB5⟩ := hrel
            have c0 : wr.cell? ⟨w.heap.size, 0, none⟩ = some (.int .i64 (r : Int)) := ((G.behind hB).behind hB5).cell (i := 0) rfl
            have c1 : wr.cell? ⟨w.heap.size, 1, none⟩ = some (.int .i64 (c : Int)) := ((G.behind hB).behind hB5).cell (i := 1) rfl
            have c2 : wr.cell? ⟨w.heap.size, 2, none⟩ = some (.slice a m cap) := ((G.behind hB).behind hB5).cell (i := 2) rfl
            have h3 : (nx : Int) ≤ 18446744073709551615 := by have := AC.out.2.2 i j hlt hj; rw [← HNX.out] at this; omega
            by_cases hjl : j < r
            · have hP := HIX.out j i hjl hlt
              obtain ⟨oa, rfl, ka⟩ := HX.out wr (below_both B (below_both hB hB5)) _ hP
              have n1 := not_top (HXL.out (j * c + i))
              have h2 := HMB.out _ hP
              have E1 : Hid (sc i (j + 1) = plusU nx (mag (lim xs (j * c + i)))) := Lib.hid (by rw [AC.out.2.1, HNX.out])
              obtain ⟨e1, e2⟩ := wplace (i := j) (C := c) (j := i) (by omega) hc64 (by omega)
              obtain ⟨P, hPP⟩ : ∃ P, P = j * c := ⟨_, rfl⟩
              rw [← hPP] at e1 e2 ka E1 hP n1 h2
              generalize hQ : P + i = Q at *
              have mm1 : lim xs Q % 9223372036854775808 = mag (lim xs Q) := rfl
              rw [mm1] at n1
              generalize lim xs Q = x at *
              generalize mag x = mg at *
              have hA1 := fun w => fadd_add (a := nx) (b := mg) (mode := 0) (w := w) h3 (by omega)
              rw [show (radd nx mg 0).1 = plusU nx mg from rfl] at hA1
              generalize (radd nx mg 0).2 = fl2 at *
              generalize plusU nx mg = s1 at *
              have hQm : (Q : Int) < (m : Int) := by omega
              have hi63 : (i : Int) ≤ 64 := by omega
              have hj63 : (j : Int) ≤ 64 := by omega
              have HA1 := Lib.hid hA1
              clear hA1 h2 h3 hPP hQ mm1
              go_wp2_with fail
              refine (HA1.out _).mono ?_
              rintro e v5 ⟨rfl, b5⟩
              have hB6 := below_both hB5 b5
              go_wp2
              exact ⟨⟨j + 1, s1, by omega, by simp, rfl, Lib.hid E1.out.symm, hB6⟩, by simp [intOf]; omega⟩
            · obtain rfl : j = r := by omega
              have E2 : Hid (gc (i + 1) = max nq nx) := Lib.hid (by rw [BC.out.2.1, HNQ.out, HNX.out])
              have hmax : ∀ (w : World) (ts : Array TypeId) (ty : TypeId), (Builtin.max_ ts ty #[.int .u64 (nq : Int), .int .u64 (nx : Int)]).run Try.prog w = .ok (.int .u64 ((max nq nx : Nat) : Int)) w := fun w ts ty => max_u64 w ts ty nq nx
              generalize max nq nx = z at *
              have hB6 := below_both hB hB5
              have hi63 : (i : Int) ≤ 64 := by omega
              clear hjl h3
              go_wp2
              exact ⟨⟨i + 1, z, by omega, by simp, rfl, Lib.hid E2.out.symm, hB6⟩, by simp [intOf]; omega⟩
        · obtain rfl : i = c := by omega
          obtain rfl := HNQ.out
          clear hlt
          go_wp2_with fail
          go_meet
          exact ⟨rfl, hB⟩
    obtain ⟨rfl, hB7⟩ := hcut
    obtain ⟨w9, rfl⟩ : ∃ w7, w7 = wc := ⟨_, rfl⟩
    replace B := below_both B hB7
    replace G := G.behind hB7
    clear hB7
    have k1 : (gc c : Int) ≤ 18446744073709551615 := by have := BC.out.2.2.2 c (Nat.le_refl _); omega
    have k2 : (gr r : Int) ≤ 18446744073709551615 := by have := BR.out.2.2.2 r (Nat.le_refl _); omega
    have k3 : (gs m : Int) ≤ 18446744073709551615 := by have := AS.out.2.2.2 m; omega
    have I1 := Lib.hid (fun w => HT1.out w k1)
    have I2 := Lib.hid (fun w => HT2.out w k2)
    have I3 := Lib.hid (fun w => HT3.out w k3)
    clear HT1 HT2 HT3 k1 k2 k3 HX HXL HMB A0 AS AR BR AC BC HIX
    generalize gc c = v1 at *
    generalize gr r = v2 at *
    generalize gs m = v3 at *
    generalize g0 m = v0 at *
    go_wp2_with fail
    refine (I1.out _).mono ?_
    rintro e x1 ⟨rfl, rfl⟩
    go_wp2_with fail
    refine (I2.out _).mono ?_
    rintro e x1 ⟨rfl, rfl⟩
    go_wp2_with fail
    refine (I3.out _).mono ?_
    rintro e x1 ⟨rfl, rfl⟩
    go_wp2
    go_ret
    exact ⟨rfl, B⟩
  · have d : (finM R C m xs != 0) = true := bne_iff_ne.2 hf
    have e1 := tol_no (F := finM R C m xs) (maxU xs xs.length) hf
    have e2 := tol_no (F := finM R C m xs) (oneV xs R.toNat C.toNat) hf
    have e3 := tol_no (F := finM R C m xs) (infV xs R.toNat C.toNat) hf
    have e4 := tol_no (F := finM R C m xs) (sqS xs m) hf
    rw [e1.1, e1.2] at HM
    rw [e2.1, e2.2] at HO
    rw [e3.1, e3.2] at HI
    rw [e4.1, e4.2] at HB
    have d2 : (finM R C m xs == finM R C m xs) = true := by simp
    clear e1 e2 e3 e4 hmx hA hx hn hf
    generalize finM R C m xs = F at *
    go_enter Try.func8, Try.ntmps8
    go_wp2_with fail
    generalize w.alloc (.cells #[.int .i64 R, .int .i64 C, .slice a m cap] 24) = W0 at *
    refine (hal _).mono ?_
    rintro e w1 ⟨rfl, b1⟩
    replace B := below_both B b1
    replace G := G.behind b1
    have c0 := G.cell (i := 0) rfl
    have c1 := G.cell (i := 1) rfl
    have c2 := G.cell (i := 2) rfl
    clear hal b1
    go_wp2_with fail
    refine (HM.out _ B).mono ?_
    rintro e w2 ⟨rfl, b2⟩
    replace B := below_both B b2
    replace G := G.behind b2
    have c0 := G.cell (i := 0) rfl
    have c1 := G.cell (i := 1) rfl
    have c2 := G.cell (i := 2) rfl
    clear b2
    go_wp2_with fail
    refine (HO.out _ B).mono ?_
    rintro e w3 ⟨rfl, b3⟩
    replace B := below_both B b3
    replace G := G.behind b3
    have c0 := G.cell (i := 0) rfl
    have c1 := G.cell (i := 1) rfl
    have c2 := G.cell (i := 2) rfl
    clear b3
    go_wp2_with fail
    refine (HI.out _ B).mono ?_
    rintro e w4 ⟨rfl, b4⟩
    replace B := below_both B b4
    replace G := G.behind b4
    have c0 := G.cell (i := 0) rfl
    have c1 := G.cell (i := 1) rfl
    have c2 := G.cell (i := 2) rfl
    clear b4
    go_wp2_with fail
    refine (HB.out _ B).mono ?_
    rintro e w5 ⟨rfl, b5⟩
    replace B := below_both B b5
    replace G := G.behind b5
    have c0 := G.cell (i := 0) rfl
    have c1 := G.cell (i := 1) rfl
    have c2 := G.cell (i := 2) rfl
    clear b5
    go_wp2_with fail
    refine (HF.out _ B).mono ?_
    rintro e w6 ⟨rfl, b6⟩
    go_wp2
    go_ret
    exact ⟨rfl, below_both B b6⟩
end Go.Proofs.Ytjiilechfjkkfaa
