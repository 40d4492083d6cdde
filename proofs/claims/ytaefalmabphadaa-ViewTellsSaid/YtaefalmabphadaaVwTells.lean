/- vernierlaw15.ViewTells, walked. -/
import Derived.Test.YtaefalmabphadaaVwCopy
import Derived.Test.YtaefalmabphadaaVwLaw
import Derived.Deep.CutBlock
import Derived.Deep.DeepCutAuto
namespace Go.Proofs.Ytaefalmabphadaa
open Go.RowKit Go.Shelf
theorem sizedV {a : Option Addr} {m cap : Nat} {xs : List Nat} {w : World} (hA : Arg w (.slice a m cap) xs) : m = xs.length := by
  obtain ⟨a', c', e⟩ := hA.slice
  simp only [Value.slice.injEq] at e
  omega
/-- the sums of a place, as the walk spells them -/
theorem plv_sums {R C m : Nat} {S O : Int} (h : mayW R C S O m = true) {i j : Nat} (hi : i < R) (hj : j < C) : ∃ (Q Q2 : Int) (p : Nat), IntKind.i64.wrap ((i : Int) * S) = Q ∧ IntKind.i64.wrap (O + Q) = Q2 ∧ IntKind.i64.wrap (Q2 + (j : Int)) = (p : Int) ∧ p < m ∧ plv S O i j = p := by
  have hb := mayW_iff.1 h
  obtain ⟨k1, k2⟩ := plv_in h hi hj
  have hq := wmul_in (show (0 : Int) ≤ i by omega) (show (i : Int) ≤ 64 by omega) (show 0 ≤ S by omega) (show S ≤ 1048576 by omega)
  unfold plv at *
  refine ⟨(i : Int) * S, O + (i : Int) * S, (O + (i : Int) * S + (j : Int)).toNat, IntWalk.i64_in _ (by omega), IntWalk.i64_in _ (by omega), ?_, by omega, by omega⟩
  rw [IntWalk.i64_in _ (by omega)]; omega
set_option maxRecDepth 100000 in
set_option maxHeartbeats 16000000 in
theorem viewTells_calls {a : Option Addr} {m cap : Nat} {R C S O i j : Int} {xs : List Nat} {w : World} (hA : Arg w (.slice a m cap) xs) (hm : m ≤ 17592186044416) :
    Calls Try.prog 5 #[.slice a m cap, .agg #[.int .i64 R, .int .i64 C, .int .i64 S, .int .i64 O], .int .i64 i, .int .i64 j] w fun e W' => e = .returned (.bool true) ∧ Below w.heap.size w W' := by
  have hal := vwalive
  have hmy := fun w => may15 (R := R) (C := C) (S := S) (O := O) (words := (m : Int)) (w := w) (by omega) (by omega)
  have hck := fun w => view_check (R := R) (C := C) (S := S) (O := O) (words := (m : Int)) (w := w)
  have hgt := fun (W : World) (h : Arg W (.slice a m cap) xs) => view_get (R := R) (C := C) (S := S) (O := O) (i := i) (j := j) h
  obtain ⟨B, G⟩ := mbox w #[.int .i64 R, .int .i64 C, .int .i64 S, .int .i64 O] 38 _ rfl
  have HA0 := Lib.hid hA
  have HGT := Lib.hid hgt
  have hml := sizedV hA
  have c0 := G.cell (i := 0) rfl
  have c1 := G.cell (i := 1) rfl
  have c2 := G.cell (i := 2) rfl
  have c3 := G.cell (i := 3) rfl
  have dG : ((getW xs m R C S O i j : Int) != (getW xs m R C S O i j : Int)) = false := by simp
  cases hv : mayW R C S O m
  · rw [hv] at hmy
    rw [show chkW R C S O m = 11 by unfold chkW; rw [hv]; rfl] at hck
    rw [show getW xs m R C S O i j = 0 by unfold getW; rw [if_neg (fun h => by rw [hv] at h; exact absurd h.1 (by decide))]] at HGT dG
    have hcp := fun w => view_copy_no (a := a) (m := m) (cap := cap) (R := R) (C := C) (S := S) (O := O) (w := w) (.inl hv)
    clear hv hA hgt hml
    go_enter Try.func5, Try.ntmps5
    go_wp2_with fail
    generalize w.alloc (.cells #[.int .i64 R, .int .i64 C, .int .i64 S, .int .i64 O] 38) = W0 at *
    refine (hal _).mono ?_
    rintro e w1 ⟨rfl, b1⟩
    replace B := below_both B b1
    replace G := G.behind b1
    have c0 := G.cell (i := 0) rfl
    have c1 := G.cell (i := 1) rfl
    have c2 := G.cell (i := 2) rfl
    have c3 := G.cell (i := 3) rfl
    go_wp2_with fail
    refine (hmy _).mono ?_
    rintro e w1 ⟨rfl, b1⟩
    replace B := below_both B b1
    replace G := G.behind b1
    have c0 := G.cell (i := 0) rfl
    have c1 := G.cell (i := 1) rfl
    have c2 := G.cell (i := 2) rfl
    have c3 := G.cell (i := 3) rfl
    go_wp2_with fail
    refine (hcp _).mono ?_
    rintro e w1 ⟨rfl, b1⟩
    obtain ⟨b2, G2⟩ := mbox w1 #[.int .i64 0, .int .i64 0, .slice none 0 0] 24 _ rfl
    replace b1 := below_both b1 b2
    replace B := below_both B b1
    replace G := G.behind b1
    have c0 := G.cell (i := 0) rfl
    have c1 := G.cell (i := 1) rfl
    have c2 := G.cell (i := 2) rfl
    have c3 := G.cell (i := 3) rfl
    go_wp2_with fail
    generalize w1.alloc (.cells #[.int .i64 0, .int .i64 0, .slice none 0 0] 24) = W1 at *
    refine (hck _).mono ?_
    rintro e w2 ⟨rfl, b1⟩
    replace G2 := G2.behind b1
    replace B := below_both B b1
    replace G := G.behind b1
    have c0 := G.cell (i := 0) rfl
    have c1 := G.cell (i := 1) rfl
    have c2 := G.cell (i := 2) rfl
    have c3 := G.cell (i := 3) rfl
    go_wp2_with fail
    refine (HGT.out _ (HA0.out.behind B)).mono ?_
    rintro e w3 ⟨rfl, b1⟩
    replace G2 := G2.behind b1
    replace B := below_both B b1
    replace G := G.behind b1
    have c0 := G.cell (i := 0) rfl
    have c1 := G.cell (i := 1) rfl
    have c2 := G.cell (i := 2) rfl
    have c3 := G.cell (i := 3) rfl
    have d2 := G2.cell (i := 2) rfl
    go_wp2
    go_ret
    exact ⟨rfl, B⟩
  · have hb := mayW_iff.1 hv
    obtain ⟨r, rfl⟩ : ∃ r : Nat, R = r := ⟨R.toNat, by omega⟩
    obtain ⟨c, rfl⟩ : ∃ r : Nat, C = r := ⟨C.toNat, by omega⟩
    rw [hv] at hmy
    rw [show chkW r c S O m = 0 by unfold chkW; rw [hv]; rfl] at hck
    obtain ⟨Gw, hGw⟩ : ∃ Gw, Gw = getW xs m r c S O i j := ⟨_, rfl⟩
    rw [← hGw] at HGT dG
    have hGw2 : Hid ((i < 0 ∨ (¬ i < 0 ∧ ¬ i < (r : Int)) ∨ (¬ i < 0 ∧ i < (r : Int) ∧ j < 0) ∨ (¬ i < 0 ∧ i < (r : Int) ∧ ¬ j < 0 ∧ ¬ j < (c : Int))) ∧ Gw = 0 ∨ ∃ p q : Nat, i = p ∧ j = q ∧ p < r ∧ q < c ∧ Gw = lim xs (plv S O p q).toNat) := Lib.hid (by
      by_cases h : 0 ≤ i ∧ i < r ∧ 0 ≤ j ∧ j < c
      · right
        refine ⟨i.toNat, j.toNat, by omega, by omega, by omega, by omega, ?_⟩
        rw [hGw]
        unfold getW plv
        rw [if_pos ⟨hv, h.1, h.2.1, h.2.2.1, h.2.2.2⟩, Int.toNat_of_nonneg h.1, Int.toNat_of_nonneg h.2.2.1]
      · left
        refine ⟨by omega, ?_⟩
        rw [hGw]
        unfold getW
        rw [if_neg (fun q => h q.2)])
    clear hGw
    have hcut : ∀ p q : Nat, p < r → q < c → _ := fun p q hp hq => plv_sums hv hp hq
    have HCUT := Lib.hid hcut
    have HA2 := Lib.hid hA
    obtain ⟨T, a', c', hT, e, hcap, HA⟩ := hA.opened
    simp only [Value.slice.injEq] at e
    obtain ⟨rfl, he, rfl⟩ := e
    have HML := Lib.hid hml
    cases h0 : hasB r c
    · have hcp := fun w => view_copy_no (a := a) (m := m) (cap := cap) (R := (r : Int)) (C := (c : Int)) (S := S) (O := O) (w := w) (.inr h0)
      have hz : (r = 0) ∨ (r ≠ 0 ∧ c = 0) := by
        have : ¬ ((0 : Int) < r ∧ (0 : Int) < c) := of_decide_eq_false h0
        omega
      have HZ := Lib.hid hz
      clear h0 hz hv hb hA hgt hml hcut he
      go_enter Try.func5, Try.ntmps5
      go_wp2_with fail
      generalize w.alloc (.cells #[.int .i64 (r : Int), .int .i64 (c : Int), .int .i64 S, .int .i64 O] 38) = W0 at *
      refine (hal _).mono ?_
      rintro e w1 ⟨rfl, b1⟩
      replace B := below_both B b1
      replace G := G.behind b1
      have c0 := G.cell (i := 0) rfl
      have c1 := G.cell (i := 1) rfl
      have c2 := G.cell (i := 2) rfl
      have c3 := G.cell (i := 3) rfl
      go_wp2_with fail
      refine (hmy _).mono ?_
      rintro e w1 ⟨rfl, b1⟩
      replace B := below_both B b1
      replace G := G.behind b1
      have c0 := G.cell (i := 0) rfl
      have c1 := G.cell (i := 1) rfl
      have c2 := G.cell (i := 2) rfl
      have c3 := G.cell (i := 3) rfl
      go_upto_region 5 with (fail)
      obtain ⟨hway, hG0⟩ := hGw2.out.resolve_right (fun ⟨p, q, _, _, hp, hq, _⟩ => by have := HZ.out; omega)
      subst hG0
      go_cut [42] from 22 to 42 (fun u wx => u = .bool false ∧ wx = w1)
      case first =>
        rcases hway with h | ⟨h1, h2⟩ | ⟨h1, h2, h3⟩ | ⟨h1, h2, h3, h4⟩
        rotate_left 3
        · have d4 : decide (j < (c : Int)) = false := decide_eq_false (by omega)
          go_wp2_with fail
          go_meet
          exact ⟨rfl, rfl⟩
        all_goals
          go_wp2_with fail
          go_meet
          exact ⟨rfl, rfl⟩
      obtain ⟨rfl, rfl⟩ := hcut
      clear hway
      go_wp2_with fail
      refine (hcp _).mono ?_
      rintro e w1 ⟨rfl, b1⟩
      obtain ⟨b2, G2⟩ := mbox w1 #[.int .i64 0, .int .i64 0, .slice none 0 0] 24 _ rfl
      replace b1 := below_both b1 b2
      replace B := below_both B b1
      replace G := G.behind b1
      have c0 := G.cell (i := 0) rfl
      have c1 := G.cell (i := 1) rfl
      have c2 := G.cell (i := 2) rfl
      have c3 := G.cell (i := 3) rfl
      go_wp2_with fail
      generalize w1.alloc (.cells #[.int .i64 0, .int .i64 0, .slice none 0 0] 24) = W1 at *
      refine (hck _).mono ?_
      rintro e w2 ⟨rfl, b1⟩
      replace G2 := G2.behind b1
      replace B := below_both B b1
      replace G := G.behind b1
      have c0 := G.cell (i := 0) rfl
      have c1 := G.cell (i := 1) rfl
      have c2 := G.cell (i := 2) rfl
      have c3 := G.cell (i := 3) rfl
      go_wp2_with fail
      refine (HGT.out _ (HA0.out.behind B)).mono ?_
      rintro e w3 ⟨rfl, b1⟩
      replace G2 := G2.behind b1
      replace B := below_both B b1
      replace G := G.behind b1
      have c0 := G.cell (i := 0) rfl
      have c1 := G.cell (i := 1) rfl
      have c2 := G.cell (i := 2) rfl
      have c3 := G.cell (i := 3) rfl
      have d2 := G2.cell (i := 2) rfl
      rcases HZ.out with h | ⟨h, h'⟩
      · have e1 : ((r : Int) == 0) = true := by rw [h]; rfl
        clear h
        go_wp2
        go_ret
        exact ⟨rfl, B⟩
      · have e1 : ((r : Int) == 0) = false := beq_eq_false_iff_ne.2 (by omega)
        have e2 : ((c : Int) == 0) = true := by rw [h']; rfl
        clear h h'
        go_wp2
        go_ret
        exact ⟨rfl, B⟩
    · have hcp := fun (W : World) (h : Arg W (.slice a m cap) xs) => view_copy (R := r) (C := c) (S := S) (O := O) h hv h0
      have HCP := Lib.hid hcp
      have hpos : (0 : Int) < r ∧ (0 : Int) < c := of_decide_eq_true h0
      have e1 : ((r : Int) == 0) = false := beq_eq_false_iff_ne.2 (by omega)
      have e2 : ((c : Int) == 0) = false := beq_eq_false_iff_ne.2 (by omega)
      have e3 : ((r : Int) == (r : Int)) = true := by simp
      have e4 : ((c : Int) == (c : Int)) = true := by simp
      have hrc : r * c ≤ 4096 := by have := Nat.mul_le_mul (show r ≤ 64 by omega) (show c ≤ 64 by omega); omega
      have hrb : r ≤ 64 ∧ c ≤ 64 := by omega
      obtain ⟨g, hg⟩ : ∃ g : Nat → Nat → Nat, g = fun i j => lim xs (plv S O i j).toNat := ⟨_, rfl⟩
      have HCG : Hid (∀ p q, lim xs (plv S O p q).toNat = g p q) := Lib.hid (fun p q => by rw [hg])
      have HTB : Hid (cpyW xs r c S O = pre c g (r * c)) := Lib.hid (by unfold cpyW tab; rw [hg])
      clear h0 hv hb hA hgt hml hcut hcp hpos hg he
      generalize cpyW xs r c S O = ys at *
      go_enter Try.func5, Try.ntmps5
      go_wp2_with fail
      generalize w.alloc (.cells #[.int .i64 (r : Int), .int .i64 (c : Int), .int .i64 S, .int .i64 O] 38) = W0 at *
      refine (hal _).mono ?_
      rintro e w1 ⟨rfl, b1⟩
      replace B := below_both B b1
      replace G := G.behind b1
      have c0 := G.cell (i := 0) rfl
      have c1 := G.cell (i := 1) rfl
      have c2 := G.cell (i := 2) rfl
      have c3 := G.cell (i := 3) rfl
      go_wp2_with fail
      refine (hmy _).mono ?_
      rintro e w1 ⟨rfl, b1⟩
      replace B := below_both B b1
      replace G := G.behind b1
      have c0 := G.cell (i := 0) rfl
      have c1 := G.cell (i := 1) rfl
      have c2 := G.cell (i := 2) rfl
      have c3 := G.cell (i := 3) rfl
      go_upto_region 5 with (fail)
      obtain ⟨b0, hb0⟩ : ∃ b0 : Bool, b0 = decide (0 ≤ i ∧ i < r ∧ 0 ≤ j ∧ j < c) := ⟨_, rfl⟩
      have HB0 := Lib.hid hb0
      clear hb0
      go_cut [42] from 22 to 42 (fun u wx => u = .bool b0 ∧ wx = w1)
      case first =>
        rcases hGw2.out with ⟨hway, hG0⟩ | ⟨p, q, rfl, rfl, hp, hq, hG1⟩
        · have hb0 : b0 = false := by rw [HB0.out]; exact decide_eq_false (by omega)
          subst hb0
          rcases hway with h | ⟨h1, h2⟩ | ⟨h1, h2, h3⟩ | ⟨h1, h2, h3, h4⟩
          rotate_left 3
          · have d4 : decide (j < (c : Int)) = false := decide_eq_false (by omega)
            go_wp2_with fail
            go_meet
            exact ⟨rfl, rfl⟩
          all_goals
            go_wp2_with fail
            go_meet
            exact ⟨rfl, rfl⟩
        · have hb0 : b0 = true := by rw [HB0.out]; exact decide_eq_true (by omega)
          subst hb0
          have g1 : ¬ (p : Int) < 0 := by omega
          have g2 : ¬ (r : Int) ≤ (p : Int) := by omega
          have g3 : ¬ (q : Int) < 0 := by omega
          have g4 : ¬ (c : Int) ≤ (q : Int) := by omega
          go_wp2_with fail
          go_meet
          exact ⟨rfl, rfl⟩
      obtain ⟨rfl, rfl⟩ := hcut
      rcases hGw2.out with ⟨hway, hG0⟩ | ⟨p, q, rfl, rfl, hp, hq, hG1⟩
      rotate_left 1
      · obtain rfl : b0 = true := by rw [HB0.out]; exact decide_eq_true (by omega)
        obtain ⟨Q, Q2, k, s1, s2, s3, hk, hpl⟩ := HCUT.out p q hp hq
        rw [hpl, Int.toNat_natCast] at hG1
        obtain ⟨oa, rfl, ka⟩ := HA.out wc B k (by have := HML.out; omega)
        rw [← hG1] at ka
        clear hG1 hpl
        go_wp2_with fail
        refine (HCP.out _ (HA0.out.behind B)).mono ?_
        rintro e w1 ⟨ba, ca, rfl, hN, b1⟩
        obtain ⟨b2, G2⟩ := mbox w1 #[.int .i64 (r : Int), .int .i64 (c : Int), .slice ba (r * c) ca] 24 _ rfl
        replace hN := hN.behind b2
        replace b1 := below_both b1 b2
        replace B := below_both B b1
        replace G := G.behind b1
        have c0 := G.cell (i := 0) rfl
        have c1 := G.cell (i := 1) rfl
        have c2 := G.cell (i := 2) rfl
        have c3 := G.cell (i := 3) rfl
        go_wp2_with fail
        generalize w1.alloc (.cells #[.int .i64 (r : Int), .int .i64 (c : Int), .slice ba (r * c) ca] 24) = W1 at *
        refine (hck _).mono ?_
        rintro e w2 ⟨rfl, b1⟩
        replace G2 := G2.behind b1
        replace hN := hN.behind b1
        replace B := below_both B b1
        replace G := G.behind b1
        have c0 := G.cell (i := 0) rfl
        have c1 := G.cell (i := 1) rfl
        have c2 := G.cell (i := 2) rfl
        have c3 := G.cell (i := 3) rfl
        go_wp2_with fail
        refine (HGT.out _ (HA0.out.behind B)).mono ?_
        rintro e w3 ⟨rfl, b1⟩
        replace G2 := G2.behind b1
        replace hN := hN.behind b1
        replace B := below_both B b1
        replace G := G.behind b1
        have c0 := G.cell (i := 0) rfl
        have c1 := G.cell (i := 1) rfl
        have c2 := G.cell (i := 2) rfl
        have c3 := G.cell (i := 3) rfl
        have HNN := Lib.hid hN
        have G1 := G
        have hz0 := Nat.lt_of_le_of_lt (Nat.zero_le _) G.lt
        clear hN
        go_wp2_with fail
        clear c0 c1 c2 c3
        go_loopw [13, 14] (fun d i wr => ∃ q : Nat, q ≤ r ∧ i = .int .i64 q ∧ OwnK .u64 26 w3.heap.size wr d (zn (pre c g (q * c))) ∧ Below w3.heap.size w3 wr) (fun _ i _ => r - (intOf i).toNat)
        case atStart => exact ⟨0, Nat.zero_le _, rfl, by rw [Nat.zero_mul, pre_zero]; exact OwnK.nil _ _ _ _, Below.refl _ _⟩
        case round =>
          obtain ⟨q, hq, rfl, hown, hB⟩ := hrel
          have c0 := (G1.behind hB).cell (i := 0) rfl
          by_cases hlt : q < r
          · go_wp2
            have hown0 : OwnK .u64 26 w3.heap.size wr u13 (zn (pre c g (q * c + 0))) := hown
            have hqc : q * c + c ≤ r * c := by
              have := Nat.mul_le_mul_right c (show q + 1 ≤ r from hlt)
              rw [Nat.add_mul, Nat.one_mul] at this
              omega
            clear hown c0
            obtain ⟨wo, rfl⟩ : ∃ wo : World, wo = wr := ⟨_, rfl⟩
            go_loopw [13, 15] (fun d j wi => ∃ k : Nat, k ≤ c ∧ j = .int .i64 k ∧ OwnK .u64 26 w3.heap.size wi d (zn (pre c g (q * c + k))) ∧ Below w3.heap.size w3 wi) (fun _ j _ => c - (intOf j).toNat)
            case atStart => exact ⟨0, Nat.zero_le _, rfl, hown0, hB⟩
            case round =>
              obtain ⟨k, hk, rfl, hownr, hBr⟩ := hrel
              have c1 := (G1.behind hBr).cell (i := 1) rfl
              by_cases hrt : k < c
              · obtain ⟨Q, Q2, n, s1, s2, s3, hn, hpl⟩ := HCUT.out q k hlt hrt
                obtain ⟨ob, hob, ka⟩ := HA.out wr (below_both B hBr) n (by have := HML.out; omega)
                first | subst hob | (simp only [Option.some.injEq, Addr.mk.injEq, true_and, and_true] at hob; subst hob)
                have hgv := HCG.out q k
                rw [hpl, Int.toNat_natCast] at hgv
                rw [hgv] at ka
                have HS := Lib.hid (pre_snoc (C := c) (i := q) g hrt)
                have hlen : (zn (pre c g (q * c + k))).length + 1 ≤ 17592186044416 := by rw [zn_length, pre_length]; omega
                have c2 := (G1.behind hBr).cell (i := 2) rfl
                have c3 := (G1.behind hBr).cell (i := 3) rfl
                clear hgv hpl
                generalize g q k = x at *
                go_wp2_with (at_builtin; refine app_u64 rfl _ _ rfl rfl rfl (cell_new1 _ _ _) (hownr.alloc _) hlen (by have := hBr.size; simp; omega) ?_; intro v' w4 hown3 hb3)
                go_roundw
                case rel => exact ⟨k + 1, by omega, by simp, by rw [← Nat.add_assoc, HS.out, zn_snoc]; exact hown3, (hBr.alloc hBr.size _).trans hb3⟩
                case measure => simp [intOf]; omega
              · obtain rfl : k = c := by omega
                clear hrt
                go_wp2
                go_roundw
                case rel => exact ⟨q + 1, by omega, by simp, by rw [Nat.add_mul, Nat.one_mul]; exact hownr, hBr⟩
                case measure => simp [intOf]; omega
          · obtain rfl : q = r := by omega
            rw [← HTB.out] at hown
            have hnl := (new_zn.2 (hown.new (Nat.lt_of_lt_of_le hz0 hB.size))).arg
            have hyl : ys.length ≤ 4096 := by rw [HTB.out, pre_length]; exact hrc
            have c1 := (G1.behind hB).cell (i := 1) rfl
            have G3 := G2.behind hB
            have d0 := G3.cell (i := 0) rfl
            have d1 := G3.cell (i := 1) rfl
            have d2 := G3.cell (i := 2) rfl
            have hs := same_arg (HNN.out.behind hB).arg hnl (by omega)
            have HSS := Lib.hid hs
            clear hs hnl hown
            go_wp2_with fail
            refine HSS.out.mono ?_
            rintro e w5 ⟨rfl, b5⟩
            go_wp2
            go_ret
            exact ⟨rfl, below_both (below_both B hB) b5⟩
      · obtain rfl : b0 = false := by rw [HB0.out]; exact decide_eq_false (by omega)
        subst hG0
        clear hway
        go_wp2_with fail
        refine (HCP.out _ (HA0.out.behind B)).mono ?_
        rintro e w1 ⟨ba, ca, rfl, hN, b1⟩
        obtain ⟨b2, G2⟩ := mbox w1 #[.int .i64 (r : Int), .int .i64 (c : Int), .slice ba (r * c) ca] 24 _ rfl
        replace hN := hN.behind b2
        replace b1 := below_both b1 b2
        replace B := below_both B b1
        replace G := G.behind b1
        have c0 := G.cell (i := 0) rfl
        have c1 := G.cell (i := 1) rfl
        have c2 := G.cell (i := 2) rfl
        have c3 := G.cell (i := 3) rfl
        go_wp2_with fail
        generalize w1.alloc (.cells #[.int .i64 (r : Int), .int .i64 (c : Int), .slice ba (r * c) ca] 24) = W1 at *
        refine (hck _).mono ?_
        rintro e w2 ⟨rfl, b1⟩
        replace G2 := G2.behind b1
        replace hN := hN.behind b1
        replace B := below_both B b1
        replace G := G.behind b1
        have c0 := G.cell (i := 0) rfl
        have c1 := G.cell (i := 1) rfl
        have c2 := G.cell (i := 2) rfl
        have c3 := G.cell (i := 3) rfl
        go_wp2_with fail
        refine (HGT.out _ (HA0.out.behind B)).mono ?_
        rintro e w3 ⟨rfl, b1⟩
        replace G2 := G2.behind b1
        replace hN := hN.behind b1
        replace B := below_both B b1
        replace G := G.behind b1
        have c0 := G.cell (i := 0) rfl
        have c1 := G.cell (i := 1) rfl
        have c2 := G.cell (i := 2) rfl
        have c3 := G.cell (i := 3) rfl
        have HNN := Lib.hid hN
        have G1 := G
        have hz0 := Nat.lt_of_le_of_lt (Nat.zero_le _) G.lt
        clear hN
        go_wp2_with fail
        clear c0 c1 c2 c3
        go_loopw [13, 14] (fun d i wr => ∃ q : Nat, q ≤ r ∧ i = .int .i64 q ∧ OwnK .u64 26 w3.heap.size wr d (zn (pre c g (q * c))) ∧ Below w3.heap.size w3 wr) (fun _ i _ => r - (intOf i).toNat)
        case atStart => exact ⟨0, Nat.zero_le _, rfl, by rw [Nat.zero_mul, pre_zero]; exact OwnK.nil _ _ _ _, Below.refl _ _⟩
        case round =>
          obtain ⟨q, hq, rfl, hown, hB⟩ := hrel
          have c0 := (G1.behind hB).cell (i := 0) rfl
          by_cases hlt : q < r
          · go_wp2
            have hown0 : OwnK .u64 26 w3.heap.size wr u13 (zn (pre c g (q * c + 0))) := hown
            have hqc : q * c + c ≤ r * c := by
              have := Nat.mul_le_mul_right c (show q + 1 ≤ r from hlt)
              rw [Nat.add_mul, Nat.one_mul] at this
              omega
            clear hown c0
            obtain ⟨wo, rfl⟩ : ∃ wo : World, wo = wr := ⟨_, rfl⟩
            go_loopw [13, 15] (fun d j wi => ∃ k : Nat, k ≤ c ∧ j = .int .i64 k ∧ OwnK .u64 26 w3.heap.size wi d (zn (pre c g (q * c + k))) ∧ Below w3.heap.size w3 wi) (fun _ j _ => c - (intOf j).toNat)
            case atStart => exact ⟨0, Nat.zero_le _, rfl, hown0, hB⟩
            case round =>
              obtain ⟨k, hk, rfl, hownr, hBr⟩ := hrel
              have c1 := (G1.behind hBr).cell (i := 1) rfl
              by_cases hrt : k < c
              · obtain ⟨Q, Q2, n, s1, s2, s3, hn, hpl⟩ := HCUT.out q k hlt hrt
                obtain ⟨ob, hob, ka⟩ := HA.out wr (below_both B hBr) n (by have := HML.out; omega)
                first | subst hob | (simp only [Option.some.injEq, Addr.mk.injEq, true_and, and_true] at hob; subst hob)
                have hgv := HCG.out q k
                rw [hpl, Int.toNat_natCast] at hgv
                rw [hgv] at ka
                have HS := Lib.hid (pre_snoc (C := c) (i := q) g hrt)
                have hlen : (zn (pre c g (q * c + k))).length + 1 ≤ 17592186044416 := by rw [zn_length, pre_length]; omega
                have c2 := (G1.behind hBr).cell (i := 2) rfl
                have c3 := (G1.behind hBr).cell (i := 3) rfl
                clear hgv hpl
                generalize g q k = x at *
                go_wp2_with (at_builtin; refine app_u64 rfl _ _ rfl rfl rfl (cell_new1 _ _ _) (hownr.alloc _) hlen (by have := hBr.size; simp; omega) ?_; intro v' w4 hown3 hb3)
                go_roundw
                case rel => exact ⟨k + 1, by omega, by simp, by rw [← Nat.add_assoc, HS.out, zn_snoc]; exact hown3, (hBr.alloc hBr.size _).trans hb3⟩
                case measure => simp [intOf]; omega
              · obtain rfl : k = c := by omega
                clear hrt
                go_wp2
                go_roundw
                case rel => exact ⟨q + 1, by omega, by simp, by rw [Nat.add_mul, Nat.one_mul]; exact hownr, hBr⟩
                case measure => simp [intOf]; omega
          · obtain rfl : q = r := by omega
            rw [← HTB.out] at hown
            have hnl := (new_zn.2 (hown.new (Nat.lt_of_lt_of_le hz0 hB.size))).arg
            have hyl : ys.length ≤ 4096 := by rw [HTB.out, pre_length]; exact hrc
            have c1 := (G1.behind hB).cell (i := 1) rfl
            have G3 := G2.behind hB
            have d0 := G3.cell (i := 0) rfl
            have d1 := G3.cell (i := 1) rfl
            have d2 := G3.cell (i := 2) rfl
            have hs := same_arg (HNN.out.behind hB).arg hnl (by omega)
            have HSS := Lib.hid hs
            clear hs hnl hown
            go_wp2_with fail
            refine HSS.out.mono ?_
            rintro e w5 ⟨rfl, b5⟩
            go_wp2
            go_ret
            exact ⟨rfl, below_both (below_both B hB) b5⟩
end Go.Proofs.Ytaefalmabphadaa
