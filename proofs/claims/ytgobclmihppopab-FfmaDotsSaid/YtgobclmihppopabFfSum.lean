/- ffma.add, walked. -/
import Derived.Test.YtgobclmihppopabFfAdd
namespace Go.Proofs.Ytgobclmihppopab
open Go.RowKit Go.Shelf

/-- what raise tells, in one word -/
theorem ff_up {s : Bool} {h l : Nat} {x : Int} {w : World} (hh : h < 9223372036854775808) (hl : l < 18446744073709551616) (x1 : -3000 ≤ x) (x2 : x ≤ 3000) :
    Calls Try.prog 78 #[.agg #[.bool s, .int .u64 (h : Int), .int .u64 (l : Int), .int .i64 x]] w fun e W' => ∃ (H L : Nat) (X : Int), e = .returned (.agg #[.bool s, .int .u64 (H : Int), .int .u64 (L : Int), .int .i64 X]) ∧ Hid (Up (h * 18446744073709551616 + l) x H L X) ∧ Below w.heap.size w W' := by
  refine (ff_raise hh hl (by omega) (by omega)).mono ?_
  rintro e W' ⟨H, L, X, rfl, hu, hb⟩
  exact ⟨H, L, X, rfl, Lib.hid hu.out, hb⟩
theorem sgn_int (s : Bool) : (sgn s : Int) ≤ 18446744073709551615 := by cases s <;> decide
theorem put4 {W : World} {g : Nat} {p0 p1 p2 p3 a b c d : Value} {t : TypeId} (G : Bk W g #[p0, p1, p2, p3] t) : Bk ((((W.setCell ⟨g, 0, none⟩ a).setCell ⟨g, 1, none⟩ b).setCell ⟨g, 2, none⟩ c).setCell ⟨g, 3, none⟩ d) g #[a, b, c, d] t := (((G.set 0 a).set 1 b).set 2 c).set 3 d
theorem past4 {W : World} {g k : Nat} {cs : Array Value} {a b c d : Value} {t : TypeId} (G : Bk W g cs t) (hne : g ≠ k) : Bk ((((W.setCell ⟨k, 0, none⟩ a).setCell ⟨k, 1, none⟩ b).setCell ⟨k, 2, none⟩ c).setCell ⟨k, 3, none⟩ d) g cs t :=
  (((G.put (p := ⟨k, 0, none⟩) hne a).put (p := ⟨k, 1, none⟩) hne b).put (p := ⟨k, 2, none⟩) hne c).put (p := ⟨k, 3, none⟩) hne d
set_option maxRecDepth 100000 in
set_option maxHeartbeats 16000000 in
theorem ff_add_core {N M : Nat} {s t : Bool} {h l h' l' : Nat} {x y mode : Int} {w : World}
    (hrp : ∀ u : World, Calls Try.prog 78 #[.agg #[.bool s, .int .u64 (h : Int), .int .u64 (l : Int), .int .i64 x]] u fun e W' => ∃ (H L : Nat) (X : Int), e = .returned (.agg #[.bool s, .int .u64 (H : Int), .int .u64 (L : Int), .int .i64 X]) ∧ Hid (Up N x H L X) ∧ Below u.heap.size u W')
    (hrq : ∀ u : World, Calls Try.prog 78 #[.agg #[.bool t, .int .u64 (h' : Int), .int .u64 (l' : Int), .int .i64 y]] u fun e W' => ∃ (H L : Nat) (X : Int), e = .returned (.agg #[.bool t, .int .u64 (H : Int), .int .u64 (L : Int), .int .i64 X]) ∧ Hid (Up M y H L X) ∧ Below u.heap.size u W')
    (hN : N < 2 ^ 106) (hM : M < 2 ^ 106) (x1 : -3000 ≤ x) (x2 : x ≤ 3000) (y1 : -3000 ≤ y) (y2 : y ≤ 3000) :
    Calls Try.prog 54 #[.agg #[.bool s, .int .u64 (h : Int), .int .u64 (l : Int), .int .i64 x], .agg #[.bool t, .int .u64 (h' : Int), .int .u64 (l' : Int), .int .i64 y], .int .i64 mode] w fun e W' =>
      e = .returned (.tuple #[.int .u64 ((rsum s N x t M y mode).1 : Int), .int .i64 ((rsum s N x t M y mode).2 : Int)]) ∧ Below w.heap.size w W' := by
  have hbx := bk_two w #[.bool s, .int .u64 (h : Int), .int .u64 (l : Int), .int .i64 x] #[.bool t, .int .u64 (h' : Int), .int .u64 (l' : Int), .int .i64 y] 74 74
  have HFAR : Hid (∀ H L X H' L' Y, Up N x H L X → Up M y H' L' Y → nearer H L X H' L' Y = false → ∃ g, Far H L X H' L' Y g) := Lib.hid fun H L X H' L' Y a b c => up_far a b hN hM x1 x2 y1 y2 c
  have HFAR2 : Hid (∀ H L X H' L' Y, Up N x H L X → Up M y H' L' Y → nearer H L X H' L' Y = true → ∃ g, Far H' L' Y H L X g) := Lib.hid fun H L X H' L' Y a b c => up_far b a hM hN y1 y2 x1 x2 (nearer_swap c)
  have HSUM : Hid (∀ H L X H' L' Y, Up N x H L X → Up M y H' L' Y → rsum s N x t M y mode = rsum s (H * 18446744073709551616 + L) X t (H' * 18446744073709551616 + L') Y mode) := Lib.hid fun H L X H' L' Y a b => up_rsum a b
  clear hN hM x1 x2 y1 y2
  obtain ⟨P, hP⟩ : ∃ P, P = rsum s N x t M y mode := ⟨_, rfl⟩
  rw [← hP]
  rw [← hP] at HSUM
  clear hP
  go_enter Try.func54, Try.ntmps54
  go_upto_region 1 with (fail)
  obtain ⟨hB0, G, G2, hsz⟩ := hbx _ rfl
  generalize ((w.alloc (.cells #[.bool s, .int .u64 (h : Int), .int .u64 (l : Int), .int .i64 x] 74)).alloc (.cells #[.bool t, .int .u64 (h' : Int), .int .u64 (l' : Int), .int .i64 y] 74)) = W0 at hB0 G G2 hsz ⊢
  clear hbx
  go_cut [] from 11 to 14 (fun wx => ∃ (H L H' L' : Nat) (X Y : Int), Hid (Up N x H L X) ∧ Hid (Up M y H' L' Y) ∧ Bk wx w.heap.size #[.bool s, .int .u64 (H : Int), .int .u64 (L : Int), .int .i64 X] 74 ∧ Bk wx (w.heap.size + 1) #[.bool t, .int .u64 (H' : Int), .int .u64 (L' : Int), .int .i64 Y] 74 ∧ Below w.heap.size w wx)
  case first =>
    have c0 := G.cell (i := 0) rfl
    have c1 := G.cell (i := 1) rfl
    have c2 := G.cell (i := 2) rfl
    have c3 := G.cell (i := 3) rfl
    have c4 := G2.cell (i := 0) rfl
    have c5 := G2.cell (i := 1) rfl
    have c6 := G2.cell (i := 2) rfl
    have c7 := G2.cell (i := 3) rfl
    have f0 := G.f 0
    have f1 := G.f 1
    have f2 := G.f 2
    have f3 := G.f 3
    have f4 := G2.f 0
    have f5 := G2.f 1
    have f6 := G2.f 2
    have f7 := G2.f 3
    replace hB0 := hB0.drew
    replace G := G.drew
    replace G2 := G2.drew
    go_region_with (first
      | (go_at_call 78; (with_reducible refine (hrp _).mono ?_); rintro e t1 ⟨H, L, X, rfl, HU, bb⟩; replace hB0 := below_both hB0 bb; replace G := G.behind bb; replace G2 := G2.behind bb; have c0 := G.cell (i := 0) rfl; have c1 := G.cell (i := 1) rfl; have c2 := G.cell (i := 2) rfl; have c3 := G.cell (i := 3) rfl; have c4 := G2.cell (i := 0) rfl; have c5 := G2.cell (i := 1) rfl; have c6 := G2.cell (i := 2) rfl; have c7 := G2.cell (i := 3) rfl; have f0 := G.f 0; have f1 := G.f 1; have f2 := G.f 2; have f3 := G.f 3; have f4 := G2.f 0; have f5 := G2.f 1; have f6 := G2.f 2; have f7 := G2.f 3; clear bb)
      | (go_at_call 78; (with_reducible refine (hrq _).mono ?_); rintro e t2 ⟨H', L', Y, rfl, HV, bb⟩; replace hB0 := below_both hB0 bb; replace G := G.behind bb; replace G2 := G2.behind bb; have c0 := G.cell (i := 0) rfl; have c1 := G.cell (i := 1) rfl; have c2 := G.cell (i := 2) rfl; have c3 := G.cell (i := 3) rfl; have c4 := G2.cell (i := 0) rfl; have c5 := G2.cell (i := 1) rfl; have c6 := G2.cell (i := 2) rfl; have c7 := G2.cell (i := 3) rfl; have f0 := G.f 0; have f1 := G.f 1; have f2 := G.f 2; have f3 := G.f 3; have f4 := G2.f 0; have f5 := G2.f 1; have f6 := G2.f 2; have f7 := G2.f 3; clear bb))
    all_goals clear c0 c1 c2 c3 c4 c5 c6 c7 f0 f1 f2 f3 f4 f5 f6 f7
    all_goals
      go_wp2_with fail
      go_meet
      case rel => exact ⟨H, L, H', L', X, Y, HU, HV, past4 (put4 G) (Nat.ne_of_lt (Nat.lt_succ_self _)), put4 (past4 G2 (Nat.ne_of_gt (Nat.lt_succ_self _))), below_set4 (below_set4 hB0 (Nat.le_refl _) _ _ _ _) (Nat.le_succ _) _ _ _ _⟩
  case rest =>
    clear G G2 hB0 hrp hrq
    obtain ⟨H, L, H', L', X, Y, HU, HV, G, G2, hB⟩ := hcut
    have c0 := G.cell (i := 0) rfl
    have c1 := G.cell (i := 1) rfl
    have c2 := G.cell (i := 2) rfl
    have c3 := G.cell (i := 3) rfl
    have c4 := G2.cell (i := 0) rfl
    have c5 := G2.cell (i := 1) rfl
    have c6 := G2.cell (i := 2) rfl
    have c7 := G2.cell (i := 3) rfl
    obtain ⟨b, hn⟩ : ∃ b, nearer H L X H' L' Y = b := ⟨_, rfl⟩
    go_wp2_with fail
    refine ff_nearer.mono ?_
    rintro e t3 ⟨rfl, bb⟩
    rw [hn]
    clear c0 c1 c2 c3 c4 c5 c6 c7
    replace hB := below_both hB bb
    replace G := G.behind bb
    replace G2 := G2.behind bb
    clear bb
    go_upto_if 17 with (fail)
    go_cut [] from 15 to 19 (fun wx => ∃ (s1 t1 : Bool) (H L H' L' : Nat) (X Y : Int) (g : Nat), Hid (Far H L X H' L' Y g ∧ P = rsum s1 (H * 18446744073709551616 + L) X t1 (H' * 18446744073709551616 + L') Y mode) ∧ Bk wx w.heap.size #[.bool s1, .int .u64 (H : Int), .int .u64 (L : Int), .int .i64 X] 74 ∧ Bk wx (w.heap.size + 1) #[.bool t1, .int .u64 (H' : Int), .int .u64 (L' : Int), .int .i64 Y] 74 ∧ Below w.heap.size w wx)
    case first =>
      cases b
      · obtain ⟨g, hg⟩ := HFAR.out H L X H' L' Y HU.out HV.out hn
        have hp := HSUM.out H L X H' L' Y HU.out HV.out
        have HF := Lib.hid (And.intro hg hp)
        clear hg hp HFAR HFAR2 HSUM HU HV hn
        go_wp2_with fail
        go_meet
        case rel => exact ⟨s, t, H, L, H', L', X, Y, g, HF, G, G2, hB⟩
      · obtain ⟨g, hg⟩ := HFAR2.out H L X H' L' Y HU.out HV.out hn
        have hp := HSUM.out H L X H' L' Y HU.out HV.out
        rw [rsum_comm] at hp
        have HF := Lib.hid (And.intro hg hp)
        clear hg hp HFAR HFAR2 HSUM HU HV hn
        have c0 := G.cell (i := 0) rfl
        have c1 := G.cell (i := 1) rfl
        have c2 := G.cell (i := 2) rfl
        have c3 := G.cell (i := 3) rfl
        have c4 := G2.cell (i := 0) rfl
        have c5 := G2.cell (i := 1) rfl
        have c6 := G2.cell (i := 2) rfl
        have c7 := G2.cell (i := 3) rfl
        have f0 := G.f 0
        have f1 := G.f 1
        have f2 := G.f 2
        have f3 := G.f 3
        have f4 := G2.f 0
        have f5 := G2.f 1
        have f6 := G2.f 2
        have f7 := G2.f 3
        go_wp2_with fail
        go_meet
        case rel =>
          exact ⟨t, s, H', L', H, L, Y, X, g, HF, past4 (put4 G) (Nat.ne_of_lt (Nat.lt_succ_self _)), put4 (past4 G2 (Nat.ne_of_gt (Nat.lt_succ_self _))), below_set4 (below_set4 hB (Nat.le_refl _) _ _ _ _) (Nat.le_succ _) _ _ _ _⟩
    case rest =>
      clear HU HV HFAR HFAR2 HSUM G G2 hB hn
      clear H L H' L' X Y
      obtain ⟨s1, t1, H, L, H', L', X, Y, g, HF, G, G2, hB⟩ := hcut
      obtain ⟨hF, hP⟩ := HF.out
      clear HF
      obtain ⟨b1, b2, b3, b4, hA⟩ := hF
      have hlow := fun u => ff_lower (s := t1) (h := H') (l := L') (g := g) (x := Y) (w := u) b3 b4 (by have := hA.2.1; omega)
      have z1 : X - Y = (g : Int) := by have := hA.1; omega
      have x1 : -16384 ≤ X := hA.2.2.1
      have x2 : X ≤ 5000 := hA.2.2.2.1
      have y1 : -200000 ≤ Y := by have := hA.1; have := hA.2.1; omega
      have y2 : Y ≤ 5000 := by have := hA.1; omega
      have hroom := apt_room hA
      have hlike := fun (e : s1 = t1) hi lo hN => apt_like (s := s1) (hi := hi) (lo := lo) (mode := mode) hA hN
      have hunlike := fun (e : s1 ≠ t1) hi lo hN => apt_unlike (s := s1) (t := t1) (hi := hi) (lo := lo) (mode := mode) e hA hN
      have hH' : (H' * 18446744073709551616 + L') / 2 ^ g < 9223372036854775808 * 18446744073709551616 := by
        refine Nat.lt_of_le_of_lt (Nat.div_le_self _ _) ?_
        have h1 := Nat.mul_le_mul_right 18446744073709551616 (show H' + 1 ≤ 9223372036854775808 from b3)
        rw [Nat.add_mul, Nat.one_mul] at h1
        exact Nat.lt_of_lt_of_le (Nat.add_lt_add_left b4 _) h1
      clear hA b3 b4
      generalize (H' * 18446744073709551616 + L') / 2 ^ g = D at *
      generalize hmo : decide ((H' * 18446744073709551616 + L') % 2 ^ g ≠ 0) = more at *
      have HP := Lib.hid hP
      have HLI := Lib.hid hlike
      have HUN := Lib.hid hunlike
      have HRO := Lib.hid hroom
      have HHH := Lib.hid hH'
      have HB1 := Lib.hid b1
      have HB2 := Lib.hid b2
      clear hP hlike hunlike hroom hH' b1 b2 hmo
      have c2 := G.cell (i := 3) rfl
      have c4 := G2.cell (i := 0) rfl
      have c5 := G2.cell (i := 1) rfl
      have c6 := G2.cell (i := 2) rfl
      have c7 := G2.cell (i := 3) rfl
      go_wp2_with fail
      refine (hlow _).mono ?_
      rintro e w4 ⟨A, B, rfl, ha, hb, hab, bb⟩
      clear c2 c4 c5 c6 c7 hlow
      replace hB := below_both hB bb
      replace G := G.behind bb
      replace G2 := G2.behind bb
      clear bb
      have hA63 : A < 9223372036854775808 := by
        refine Nat.not_le.1 fun hc => ?_
        have h1 := Nat.mul_le_mul_right 18446744073709551616 hc
        have h2 := HHH.out
        rw [← hab] at h2
        exact absurd (Nat.lt_of_lt_of_le h2 (Nat.le_trans h1 (Nat.le_add_right _ _))) (Nat.lt_irrefl _)
      have HAB := Lib.hid hab
      have HA63 := Lib.hid hA63
      clear hab hA63 HHH
      have c0 := G.cell (i := 0) rfl
      have c4 := G2.cell (i := 0) rfl
      go_upto_if 35 with (fail)
      clear c0 c4
      go_cut [8, 9] from 31 to 50 (fun u v wx => ∃ C E : Nat, u = .int .u64 (C : Int) ∧ v = .int .u64 (E : Int) ∧ C ≤ 18446744073709551615 ∧ E ≤ 18446744073709551615 ∧ Hid (P = if C * 18446744073709551616 + E = 0 then (if s1 = t1 then sgn s1 else sgn (decide (mode = 4)), 0) else prnd s1 C E X more mode) ∧ Bk wx w.heap.size #[.bool s1, .int .u64 (H : Int), .int .u64 (L : Int), .int .i64 X] 74 ∧ Bk wx (w.heap.size + 1) #[.bool t1, .int .u64 (H' : Int), .int .u64 (L' : Int), .int .i64 Y] 74 ∧ Below w.heap.size w wx)
      case first =>
        have c0 := G.cell (i := 0) rfl
        have c1 := G.cell (i := 1) rfl
        have c2 := G.cell (i := 2) rfl
        have c3 := G.cell (i := 3) rfl
        by_cases hst : s1 = t1
        · subst hst
          have hs := fun u => ff_plus (s := s1) (h := H) (l := L) (h' := A) (l' := B) (x := X) (w := u) HB2.out (by omega) (by have := HB1.out; have := HA63.out; omega)
          clear HRO HUN HB1 HB2 HA63 ha hb
          cases s1
          all_goals
            go_wp2_with fail
            refine (hs _).mono ?_
            rintro e w5 ⟨C, E, rfl, hC, hE, hce, bb⟩
            rw [HAB.out] at hce
            have hq := HLI.out (by first | rfl | trivial | decide) C E hce
            rw [← HP.out] at hq
            have HQ := Lib.hid hq
            clear hq hce HLI HP HAB hs
            go_wp2_with fail
            go_meet
            case rel => exact ⟨C, E, rfl, rfl, hC, hE, Lib.hid (by first | (rw [if_pos rfl]; exact HQ.out) | (rw [if_pos trivial]; exact HQ.out) | exact HQ.out), G.behind bb, G2.behind bb, below_both hB bb⟩
        · have hs := fun u => ff_minus (s := s1) (more := more) (h := H) (l := L) (h' := A) (l' := B) (x := X) (w := u) (by have := HB1.out; omega) HB2.out (by omega) (by omega) (by rw [HAB.out]; exact HRO.out)
          clear HRO HLI HB1 HB2 HA63 ha hb
          cases s1 <;> cases t1 <;> first | exact absurd rfl hst | clear hst
          all_goals
            go_wp2_with fail
            refine (hs _).mono ?_
            rintro e w5 ⟨C, E, rfl, hC, hE, hce, bb⟩
            rw [HAB.out] at hce
            have hq := HUN.out (by first | rfl | trivial | decide) C E hce
            rw [← HP.out] at hq
            have HQ := Lib.hid hq
            clear hq hce HUN HP HAB hs
            go_wp2_with fail
            go_meet
            case rel => exact ⟨C, E, rfl, rfl, hC, hE, Lib.hid (by first | (rw [if_neg (by decide)]; exact HQ.out) | (rw [if_neg not_false]; exact HQ.out) | exact HQ.out), G.behind bb, G2.behind bb, below_both hB bb⟩
      case rest =>
        clear G G2 hB HP HLI HUN HRO HB1 HB2 HAB HA63 ha hb
        obtain ⟨C, E, rfl, rfl, hC, hE, HQ, G, G2, hB⟩ := hcut
        have c0 := G.cell (i := 0) rfl
        have c3 := G.cell (i := 3) rfl
        have c4 := G2.cell (i := 0) rfl
        have hadd : C * 18446744073709551616 + E = 0 → ∀ u, Calls Try.prog 71 #[.int .u64 (sgn s1 : Int), .int .u64 (sgn t1 : Int), .int .i64 mode] u fun e W' => e = .returned (.tuple #[.int .u64 (P.1 : Int), .int .i64 (P.2 : Int)]) ∧ Below u.heap.size u W' := by
          intro h0 u
          have h := fadd_add (a := sgn s1) (b := sgn t1) (mode := mode) (w := u) (sgn_int s1) (sgn_int t1)
          have hq := HQ.out
          rw [if_pos h0, ← radd_zeros] at hq
          rwa [← hq] at h
        have hrnd : C * 18446744073709551616 + E ≠ 0 → ∀ u, Calls Try.prog 63 #[.bool s1, .int .u64 (C : Int), .int .u64 (E : Int), .int .i64 X, .bool more, .int .i64 mode] u fun e W' => e = .returned (.tuple #[.int .u64 (P.1 : Int), .int .i64 (P.2 : Int)]) ∧ Below u.heap.size u W' := by
          intro h0 u
          have h := pround (neg := s1) (hi := C) (lo := E) (exp := X) (more := more) (mode := mode) (w := u) (by omega) (by omega) (by omega) (by omega)
          have hq := HQ.out
          rw [if_neg h0] at hq
          rwa [← hq] at h
        clear HQ
        by_cases hC0 : C = 0
        · subst hC0
          by_cases hE0 : E = 0
          · subst hE0
            replace hadd := hadd rfl
            clear hrnd
            go_upto_region 9 with (fail)
            go_region_with (first
              | (go_at_call 58; (with_reducible refine (pzero1 _ _).mono ?_); rintro e z1 ⟨rfl, rfl⟩)
              | (go_at_call 71; (with_reducible refine (hadd _).mono ?_); rintro e w6 ⟨rfl, bb⟩))
            all_goals
              go_wp2
              go_ret2
              exact ⟨rfl, below_both hB.drew bb⟩
          · have hrnd := hrnd (by omega)
            have d1 : ((E : Int) == 0) = false := beq_eq_false_iff_ne.2 (by omega)
            clear hadd hE0
            go_wp2_with fail
            refine (hrnd _).mono ?_
            rintro e w6 ⟨rfl, bb⟩
            go_wp2
            go_ret2
            exact ⟨rfl, below_both hB bb⟩
        · have hrnd := hrnd (fun h0 => hC0 (by have := (Nat.add_eq_zero_iff.1 h0).1; omega))
          have d1 : ((C : Int) == 0) = false := beq_eq_false_iff_ne.2 (by omega)
          clear hadd hC0
          go_wp2_with fail
          refine (hrnd _).mono ?_
          rintro e w6 ⟨rfl, bb⟩
          go_wp2
          go_ret2
          exact ⟨rfl, below_both hB bb⟩
/-- the sum of both, rounded once -/
theorem ff_add {s t : Bool} {h l h' l' : Nat} {x y mode : Int} {w : World} (hh : h < 9223372036854775808) (hl : l < 18446744073709551616) (hh' : h' < 9223372036854775808) (hl' : l' < 18446744073709551616)
    (hN : h * 18446744073709551616 + l < 2 ^ 106) (hM : h' * 18446744073709551616 + l' < 2 ^ 106) (x1 : -3000 ≤ x) (x2 : x ≤ 3000) (y1 : -3000 ≤ y) (y2 : y ≤ 3000) :
    Calls Try.prog 54 #[.agg #[.bool s, .int .u64 (h : Int), .int .u64 (l : Int), .int .i64 x], .agg #[.bool t, .int .u64 (h' : Int), .int .u64 (l' : Int), .int .i64 y], .int .i64 mode] w fun e W' =>
      e = .returned (.tuple #[.int .u64 ((rsum s (h * 18446744073709551616 + l) x t (h' * 18446744073709551616 + l') y mode).1 : Int), .int .i64 ((rsum s (h * 18446744073709551616 + l) x t (h' * 18446744073709551616 + l') y mode).2 : Int)]) ∧ Below w.heap.size w W' :=
  ff_add_core (fun u => ff_up hh hl x1 x2) (fun u => ff_up hh' hl' y1 y2) hN hM x1 x2 y1 y2
end Go.Proofs.Ytgobclmihppopab
