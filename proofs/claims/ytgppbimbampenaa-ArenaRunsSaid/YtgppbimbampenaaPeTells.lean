/- The law PermTells: its is; walked. -/
import Derived.Test.YtgppbimbampenaaPeThen
namespace Go.Proofs.Ytgppbimbampenaa
open Go.RowKit Go.Shelf
set_option maxRecDepth 100000 in
set_option maxHeartbeats 4000000 in
theorem law17_is {v : Value} {zs : List Int} {w : World} (hA : ArgK .i64 w v zs) (hn : zs.length ≤ 17592186044416) : Calls Try.prog 24 #[v] w fun e W' => e = .returned (.bool (permB zs)) ∧ w = W' := by
  obtain ⟨S, a, cap, hS, rfl, hcap, HA⟩ := hA.opened
  have HY : Hid ((∀ i, i < zs.length → cntZ zs (i : Int) zs.length = 1) → permB zs = decide (zs.length ≤ 64)) := Lib.hid (fun h => by rw [permB_once, onceB_iff.2 h, Bool.true_and])
  have HN : Hid (∀ i, i < zs.length → cntZ zs (i : Int) zs.length ≠ 1 → permB zs = false) := Lib.hid (fun i hi h => by
    rw [permB_once, show onceB zs = false from by rw [Bool.eq_false_iff]; intro q; exact h (onceB_iff.1 q i hi), Bool.false_and])
  have HC := Lib.hid (show ∀ r k, cntZ zs r (k + 1) = cntZ zs r k + (if zat zs k = r then 1 else 0) from fun _ _ => rfl)
  have HC0 := Lib.hid (show ∀ r, cntZ zs r 0 = 0 from fun _ => rfl)
  have HCL := Lib.hid (fun r k => cntZ_le zs r k)
  clear hA hcap
  generalize permB zs = R at *
  generalize cntZ zs = F at *
  generalize zs.length = n at *
  go_enter Try.func24, Try.ntmps24
  go_wp2
  go_loopw [3] (fun i wr => ∃ k : Nat, k ≤ n ∧ i = .int .i64 k ∧ Hid (∀ j, j < k → F (j : Int) n = 1) ∧ wr = w) (fun i _ => n - (intOf i).toNat)
  case atStart => exact ⟨0, Nat.zero_le _, rfl, Lib.hid (fun j h => absurd h (Nat.not_lt_zero j)), rfl⟩
  case round =>
    obtain ⟨i, hi, rfl, HJ, hw⟩ := hrel
    cases hw
    by_cases hlt : i < n
    · go_wp2
      go_loopw [4, 5] (fun s q wr => ∃ k t : Nat, k ≤ n ∧ q = .int .i64 k ∧ s = .int .i64 (t : Int) ∧ t ≤ k ∧ Hid (t = F (i : Int) k) ∧ wr = w) (fun _ q _ => n - (intOf q).toNat)
      case atStart => exact ⟨0, 0, Nat.zero_le _, rfl, rfl, Nat.le_refl _, Lib.hid (HC0.out _).symm, rfl⟩
      case round =>
        obtain ⟨k, t, hk, rfl, rfl, htk, HT, hw⟩ := hrel
        cases hw
        by_cases hkt : k < n
        · obtain ⟨o, rfl, kc⟩ := HA.out w (Below.refl _ _) k hkt
          by_cases hz : zat zs k = (i : Int)
          · have HT2 : Hid (t + 1 = F (i : Int) (k + 1)) := Lib.hid (by rw [HC.out, if_pos hz, HT.out])
            have d : (zat zs k == (i : Int)) = true := beq_iff_eq.2 hz
            clear hz
            generalize zat zs k = z at *
            go_wp2
            go_roundw
            case rel => exact ⟨k + 1, t + 1, by omega, by simp, by simp, by omega, HT2, trivial⟩
            case measure => simp [intOf]; omega
          · have HT2 : Hid (t = F (i : Int) (k + 1)) := Lib.hid (by rw [HC.out, if_neg hz, HT.out, Nat.add_zero])
            have d : (zat zs k == (i : Int)) = false := beq_eq_false_iff_ne.2 hz
            clear hz
            generalize zat zs k = z at *
            go_wp2
            go_roundw
            case rel => exact ⟨k + 1, t, by omega, by simp, rfl, by omega, HT2, trivial⟩
            case measure => simp [intOf]; omega
        · obtain rfl : k = n := by omega
          clear hkt
          by_cases h1 : t = 1
          · have HO : Hid (F (i : Int) k = 1) := Lib.hid (by rw [← HT.out, h1])
            subst h1
            go_wp2
            go_roundw
            case rel => exact ⟨i + 1, by omega, by simp, Lib.hid (fun j hj => by
              rcases Nat.lt_or_ge j i with e | e
              · exact HJ.out j e
              · obtain rfl : j = i := by omega
                exact HO.out), trivial⟩
            case measure => simp [intOf]; omega
          · have hR := HN.out i hlt (by rw [← HT.out]; exact h1)
            have d : ((t : Int) != 1) = true := bne_iff_ne.2 (by omega)
            have d2 : (t != 1) = true := bne_iff_ne.2 h1
            subst hR
            clear h1
            go_wp2
            go_ret
            exact ⟨rfl, rfl⟩
    · obtain rfl : i = n := by omega
      have hR := HY.out HJ.out
      clear hlt
      by_cases h64 : i ≤ 64
      · have d : decide ((i : Int) ≤ 64) = true := decide_eq_true (by omega)
        rw [decide_eq_true h64] at hR
        subst hR
        clear h64
        go_wp2
        go_ret
        exact ⟨rfl, rfl⟩
      · have d : decide ((i : Int) ≤ 64) = false := decide_eq_false (by omega)
        rw [decide_eq_false h64] at hR
        subst hR
        clear h64
        go_wp2
        go_ret
        exact ⟨rfl, rfl⟩
theorem OwnK.arg {k : IntKind} {t : TypeId} {b : Nat} {W : World} {v : Value} {zs : List Int} (h : OwnK k t b W v zs) (h0 : 0 < W.heap.size) : ArgK k W v zs := (h.new h0).arg
theorem idN_length (n : Int) : ((idN n).length : Int) = if 0 ≤ n ∧ n ≤ 64 then n else 0 := by
  unfold idN
  by_cases h : 0 ≤ n ∧ n ≤ 64
  · rw [if_pos h, if_pos h, idZ_length]; omega
  · rw [if_neg h, if_neg h]; rfl
theorem idN_at {n : Int} {k : Nat} (h : k < (idN n).length) : zat (idN n) k = (k : Int) := by
  unfold idN at h ⊢
  by_cases q : 0 ≤ n ∧ n ≤ 64
  · rw [if_pos q] at h ⊢
    rw [idZ_length] at h
    exact idZ_at h
  · rw [if_neg q] at h; simp at h
theorem invE_length (zs : List Int) : (invE zs).length = if permB zs then zs.length else 0 := by
  unfold invE
  cases permB zs
  · rfl
  · simp [invZ_length]
set_option maxRecDepth 100000 in
set_option maxHeartbeats 8000000 in
theorem permTells_calls {vp vq : Value} {ps qs : List Int} {n : Int} {w : World} (hpos : 0 < w.heap.size) (hP : ArgK .i64 w vp ps) (hQ : ArgK .i64 w vq qs) (hpn : ps.length ≤ 17592186044416) (hqn : qs.length ≤ 17592186044416) :
    Calls Try.prog 4 #[vp, vq, .int .i64 n] w fun e W' => e = .returned (.bool true) ∧ Below w.heap.size w W' := by
  have hal := law17_alive (w := w)
  have C1 := Lib.hid (fun (W : World) (h : Below w.heap.size w W) => perm_inverse (hP.behind h))
  have C2 := Lib.hid (fun (W : World) (h : Below w.heap.size w W) => perm_then (hP.behind h) (hQ.behind h) hpn hqn)
  have C3 := Lib.hid (fun (W : World) => perm_identity (n := n) (w := W))
  have C4 := Lib.hid (fun (W : World) (h : Below w.heap.size w W) => perm_check (hP.behind h))
  have C5 := Lib.hid (fun (W : World) (h : Below w.heap.size w W) => law17_is (hP.behind h) hpn)
  have C6 := Lib.hid (fun (W : World) (h : Below w.heap.size w W) => law17_is (hQ.behind h) hqn)
  obtain ⟨S, a1, c1, hS, rfl, hc1, HA⟩ := hP.opened
  obtain ⟨T, a2, c2, hT, rfl, hc2, HB⟩ := hQ.opened
  have HIL : Hid ((invE ps).length = if permB ps then ps.length else 0) := Lib.hid (invE_length ps)
  have HNL : Hid (((idN n).length : Int) = if 0 ≤ n ∧ n ≤ 64 then n else 0) := Lib.hid (idN_length n)
  have HNA := Lib.hid (fun k => @idN_at n k)
  have HPI : Hid (permB ps = true → ∀ k, k < ps.length → (0 ≤ zat ps k ∧ zat ps k < ps.length) ∧ zat (invE ps) (zat ps k).toNat = (k : Int)) := Lib.hid (fun h k hk => by
    have q := (permB_iff.1 h).2
    refine ⟨(q k hk).1, ?_⟩
    unfold invE
    rw [h, if_pos rfl]
    exact invZ_at q hk)
  have HT0 : Hid ((permB ps && permB qs) = false → thenE ps qs = 9 ∧ (thenL ps qs).length = 0) := Lib.hid (fun h => by
    have e : thenE ps qs = 9 := by
      unfold thenE chkP
      cases h1 : permB ps
      · simp
      · cases h2 : permB qs
        · simp
        · rw [h1, h2] at h; simp at h
    exact ⟨e, by unfold thenL; rw [if_neg (by rw [e]; decide)]; rfl⟩)
  have HT1 : Hid ((permB ps && permB qs) = true → ps.length ≠ qs.length → thenE ps qs = 11 ∧ (thenL ps qs).length = 0) := Lib.hid (fun h hl => by
    rw [Bool.and_eq_true] at h
    have e : thenE ps qs = 11 := by unfold thenE chkP; rw [h.1, h.2]; simp [hl]
    exact ⟨e, by unfold thenL; rw [if_neg (by rw [e]; decide)]; rfl⟩)
  have HT2 : Hid ((permB ps && permB qs) = true → ps.length = qs.length → thenE ps qs = 0 ∧ (thenL ps qs).length = qs.length ∧ ∀ k, k < qs.length → (0 ≤ zat qs k ∧ zat qs k < qs.length) ∧ zat (thenL ps qs) k = zat ps (zat qs k).toNat) := Lib.hid (fun h hl => by
    rw [Bool.and_eq_true] at h
    have e : thenE ps qs = 0 := by unfold thenE chkP; rw [h.1, h.2]; simp [hl]
    have e2 : thenL ps qs = thenZ ps qs := by unfold thenL; rw [if_pos e]
    have q := (permB_iff.1 h.2).2
    exact ⟨e, by rw [e2, thenZ_length], fun k hk => ⟨(q k hk).1, by rw [e2, thenZ_at hk]⟩⟩)
  have HCK : Hid (chkP ps = if permB ps then 0 else 9) := Lib.hid rfl
  clear hP hQ hc1 hc2
  generalize invE ps = I at *
  generalize idN n = D at *
  generalize thenE ps qs = TE at *
  generalize thenL ps qs = TL at *
  generalize chkP ps = ck at *
  generalize permB ps = bp at *
  generalize permB qs = bq at *
  have HDL : Hid (D.length ≤ 64) := Lib.hid (by have := HNL.out; split at this <;> omega)
  go_enter Try.func4, Try.ntmps4
  go_wp2_with fail
  refine hal.mono ?_
  rintro e W1 ⟨rfl, b1⟩
  clear hal
  go_wp2_with fail
  refine (C1.out _ b1).mono ?_
  rintro e W2 ⟨u1, rfl, o1, b2⟩
  replace b1 := below_both b1 b2
  clear b2
  go_wp2_with fail
  refine (C2.out _ b1).mono ?_
  rintro e W3 ⟨u2, rfl, o2, b2⟩
  replace o1 := o1.below b2
  replace b1 := below_both b1 b2
  clear b2
  go_wp2_with fail
  refine (C3.out _).mono ?_
  rintro e W4 ⟨u3, rfl, o3, b2⟩
  replace o1 := o1.below b2
  replace o2 := o2.below b2
  replace b1 := below_both b1 b2
  have hp4 : 0 < W4.heap.size := Nat.lt_of_lt_of_le hpos b1.size
  obtain ⟨S1, x1, y1, hS1, rfl, _, H1⟩ := (o1.arg hp4).opened
  obtain ⟨S2, x2, y2, hS2, rfl, _, H2⟩ := (o2.arg hp4).opened
  obtain ⟨S3, x3, y3, hS3, rfl, _, H3⟩ := (o3.arg hp4).opened
  clear b2 o1 o2 o3 C1 C2 C3 hpos hp4 hS1 hS2 hS3 hS hT
  generalize I.length = il at *
  generalize D.length = dl at *
  generalize TL.length = tl at *
  generalize ps.length = m at *
  generalize qs.length = q at *
  go_upto_region 6 with (fail)
  go_cut [51] from 30 to 51 (fun u wx => u = .bool false ∧ Below W4.heap.size W4 wx)
  case first =>
    have hck := HCK.out
    have ck1 := fun W h => C4.out W (below_both b1 h)
    have ck2 := fun W h => C5.out W (below_both b1 h)
    cases bp
    · simp only [Bool.false_eq_true, if_false] at hck
      subst hck
      go_wp2_with fail
      refine (ck1 _ (Below.refl _ _)).mono ?_
      rintro e w5 ⟨rfl, b5⟩
      go_wp2_with fail
      refine (ck2 _ b5).mono ?_
      rintro e w6 ⟨rfl, rfl⟩
      go_wp2_with fail
      refine (ck2 _ b5).mono ?_
      rintro e w6 ⟨rfl, rfl⟩
      go_wp2_with fail
      refine (ck2 _ b5).mono ?_
      rintro e w6 ⟨rfl, rfl⟩
      go_wp2
      go_meet
      exact ⟨rfl, b5⟩
    · simp only [if_true] at hck
      subst hck
      go_wp2_with fail
      refine (ck1 _ (Below.refl _ _)).mono ?_
      rintro e w5 ⟨rfl, b5⟩
      go_wp2_with fail
      refine (ck2 _ b5).mono ?_
      rintro e w6 ⟨rfl, rfl⟩
      go_wp2_with fail
      refine (ck2 _ b5).mono ?_
      rintro e w6 ⟨rfl, rfl⟩
      go_wp2_with fail
      refine (ck2 _ b5).mono ?_
      rintro e w6 ⟨rfl, rfl⟩
      go_wp2
      go_meet
      exact ⟨rfl, b5⟩
  obtain ⟨rfl, b5⟩ := hcut
  have B5 := below_both b1 b5
  clear C4 HCK b1
  obtain ⟨W5, rfl⟩ : ∃ W5, W5 = wc := ⟨_, rfl⟩
  obtain ⟨nb, hnb⟩ : ∃ nb : Bool, nb = !decide (0 ≤ n ∧ n ≤ 64) := ⟨_, rfl⟩
  have HNB := Lib.hid hnb
  clear hnb
  go_upto_region 8 with (fail)
  go_cut [57] from 52 to 57 (fun u wx => u = .bool nb ∧ wx = W5)
  case first =>
    rcases (show n < 0 ∨ (0 ≤ n ∧ 64 < n) ∨ (0 ≤ n ∧ n ≤ 64) by omega) with h | ⟨h1, h2⟩ | ⟨h1, h2⟩
    · have hb := HNB.out
      rw [decide_eq_false (by omega : ¬ (0 ≤ n ∧ n ≤ 64)), Bool.not_false] at hb
      subst hb
      go_wp2
      go_meet
      exact ⟨rfl, rfl⟩
    · have hb := HNB.out
      rw [decide_eq_false (by omega : ¬ (0 ≤ n ∧ n ≤ 64)), Bool.not_false] at hb
      subst hb
      go_wp2
      go_meet
      exact ⟨rfl, rfl⟩
    · have hb := HNB.out
      rw [decide_eq_true (show 0 ≤ n ∧ n ≤ 64 from ⟨h1, h2⟩), Bool.not_true] at hb
      subst hb
      have d1 : decide (n < 0) = false := decide_eq_false (by omega)
      have d2 : decide (64 < n) = false := decide_eq_false (by omega)
      go_wp2
      go_meet
      exact ⟨by simp [d1, d2], rfl⟩
  obtain ⟨rfl, hw3⟩ := hcut
  cases hw3
  go_upto_if 57 with (fail)
  go_cut [2] from 57 to 57 (fun u wx => u = .int .i64 (dl : Int) ∧ wx = W5)
  case first =>
    have hnl := HNL.out
    by_cases h : 0 ≤ n ∧ n ≤ 64
    · rw [if_pos h] at hnl
      have hb := HNB.out
      rw [decide_eq_true h, Bool.not_true] at hb
      subst hb
      clear h
      go_wp2
      go_meet
      exact ⟨by rw [hnl], rfl⟩
    · rw [if_neg h] at hnl
      have hb := HNB.out
      rw [decide_eq_false h, Bool.not_false] at hb
      subst hb
      clear h
      go_wp2
      go_meet
      exact ⟨by rw [hnl], rfl⟩
  obtain ⟨rfl, hw3⟩ := hcut
  cases hw3
  clear HNL
  go_wp2
  go_loopw [12] (fun i wr => ∃ k : Nat, k ≤ dl ∧ i = .int .i64 k ∧ wr = W5) (fun i _ => dl - (intOf i).toNat)
  case atStart => first | exact ⟨0, Nat.zero_le _, rfl, rfl⟩ | exact ⟨0, Nat.zero_le _, rfl, trivial⟩
  case round =>
    obtain ⟨k, hk, rfl, hw⟩ := hrel
    cases hw
    by_cases hlt : k < dl
    · obtain ⟨o, rfl, kc⟩ := H3.out W5 b5 k hlt
      rw [HNA.out k hlt] at kc
      have hk64 : (k : Int) ≤ 64 := by have := HDL.out; omega
      go_wp2
      go_roundw
      case rel => exact ⟨k + 1, by omega, by simp, trivial⟩
      case measure => simp [intOf]; omega
    · obtain rfl : k = dl := by omega
      clear hlt hk H3 HNA HDL HNB
      have hil := HIL.out
      have is1 := fun W h => C5.out W (below_both B5 h)
      have is2 := fun W h => C6.out W (below_both B5 h)
      clear C5 C6 HIL
      cases bp
      · simp only [Bool.false_eq_true, if_false] at hil
        obtain ⟨hte, htl⟩ := HT0.out rfl
        subst hil hte htl
        clear HT1 HT2 HPI HT0
        go_wp2
        go_loopw [13] (fun i wr => i = .int .i64 0 ∧ wr = W5) (fun i _ => 0)
        case atStart => first | exact ⟨rfl, rfl⟩ | exact ⟨rfl, trivial⟩
        case round =>
          obtain ⟨rfl, hw⟩ := hrel
          cases hw
          go_wp2_with fail
          refine (is1 _ (Below.refl _ _)).mono ?_
          rintro e w6 ⟨rfl, rfl⟩
          go_wp2
          go_ret
          exact ⟨rfl, B5⟩
      · simp only [if_true] at hil
        subst hil
        have d : decide ((il : Int) < (il : Int)) = false := decide_eq_false (by omega)
        go_wp2
        go_loopw [13] (fun i wr => ∃ k : Nat, k ≤ il ∧ i = .int .i64 k ∧ wr = W5) (fun i _ => il - (intOf i).toNat)
        case atStart => first | exact ⟨0, Nat.zero_le _, rfl, rfl⟩ | exact ⟨0, Nat.zero_le _, rfl, trivial⟩
        case round =>
          obtain ⟨j, hj, rfl, hw⟩ := hrel
          cases hw
          by_cases hlt : j < il
          · obtain ⟨⟨hz1, hz2⟩, hz3⟩ := HPI.out (by simp) j hlt
            obtain ⟨o, rfl, kc⟩ := HA.out W5 B5 j hlt
            obtain ⟨r, hr⟩ : ∃ r : Nat, zat ps j = (r : Int) := ⟨(zat ps j).toNat, by omega⟩
            have hrm : r < il := by omega
            obtain ⟨o2, rfl, kd⟩ := H1.out W5 b5 r hrm
            rw [hr, Int.toNat_natCast] at hz3
            rw [hr] at kc
            rw [hz3] at kd
            clear hz1 hz2 hz3 hr
            go_wp2
            go_roundw
            case rel => exact ⟨j + 1, by omega, by simp, trivial⟩
            case measure => simp [intOf]; omega
          · obtain rfl : j = il := by omega
            clear hlt hj HPI H1
            cases bq
            · obtain ⟨hte, htl⟩ := HT0.out rfl
              subst hte htl
              go_wp2_with fail
              refine (is1 _ (Below.refl _ _)).mono ?_
              rintro e w6 ⟨rfl, rfl⟩
              go_wp2_with fail
              refine (is2 _ (Below.refl _ _)).mono ?_
              rintro e w6 ⟨rfl, rfl⟩
              go_wp2
              go_ret
              exact ⟨rfl, B5⟩
            · by_cases hmq : j = q
              · obtain ⟨hte, htl, hr⟩ := HT2.out rfl hmq
                subst hte htl hmq
                have HR := Lib.hid hr
                clear hr HT0 HT1 HT2
                have dd : (j != j) = false := by simp
                go_wp2_with fail
                refine (is1 _ (Below.refl _ _)).mono ?_
                rintro e w6 ⟨rfl, rfl⟩
                go_wp2_with fail
                refine (is2 _ (Below.refl _ _)).mono ?_
                rintro e w6 ⟨rfl, rfl⟩
                go_wp2
                go_loopw [14] (fun i wr => ∃ k : Nat, k ≤ j ∧ i = .int .i64 k ∧ Below W4.heap.size W4 wr ∧ Below w.heap.size w wr) (fun i _ => j - (intOf i).toNat)
                case atStart => exact ⟨0, Nat.zero_le _, rfl, b5, B5⟩
                case round =>
                  obtain ⟨t, ht, rfl, b6, B6⟩ := hrel
                  by_cases hlt : t < j
                  · obtain ⟨⟨hz1, hz2⟩, hz3⟩ := HR.out t hlt
                    obtain ⟨o, rfl, kc⟩ := HB.out wr B6 t hlt
                    obtain ⟨r, hr⟩ : ∃ r : Nat, zat qs t = (r : Int) := ⟨(zat qs t).toNat, by omega⟩
                    have hrm : r < j := by omega
                    have hrm2 : (r : Int) < (j : Int) := by omega
                    have hlt2 : (t : Int) < (j : Int) := by omega
                    obtain ⟨o2, rfl, kd⟩ := HA.out wr B6 r hrm
                    obtain ⟨o3, rfl, ke⟩ := H2.out wr b6 t hlt
                    rw [hr, Int.toNat_natCast] at hz3
                    rw [hr] at kc
                    rw [hz3] at ke
                    clear hz1 hz2 hz3 hr
                    generalize zat ps r = x at *
                    go_wp2
                    go_region
                    go_wp2
                    go_roundw
                    case rel => exact ⟨t + 1, by omega, by simp, b6.drew, B6.drew⟩
                    case measure => simp [intOf]; omega
                  · obtain rfl : t = j := by omega
                    clear hlt
                    go_wp2
                    go_ret
                    exact ⟨rfl, B6⟩
              · obtain ⟨hte, htl⟩ := HT1.out rfl hmq
                subst hte htl
                have dd : (j != q) = true := bne_iff_ne.2 hmq
                have dd2 : ((j : Int) != (q : Int)) = true := bne_iff_ne.2 (by omega)
                clear hmq
                go_wp2_with fail
                refine (is1 _ (Below.refl _ _)).mono ?_
                rintro e w6 ⟨rfl, rfl⟩
                go_wp2_with fail
                refine (is2 _ (Below.refl _ _)).mono ?_
                rintro e w6 ⟨rfl, rfl⟩
                go_wp2
                go_ret
                exact ⟨rfl, B5⟩
end Go.Proofs.Ytgppbimbampenaa
