/- vernierlaw22: solved. -/
import Derived.Test.YtdonecohnemomaaTrSol
import Derived.BigQuiet
import Derived.Deep.RegionHeld3
namespace Go.Proofs.Ytdonecohnemomaa
open Go.RowKit Go.Shelf
set_option maxRecDepth 100000 in
set_option maxHeartbeats 16000000 in
theorem l22_solved {R c : Nat} {up unit : Bool} {a b : Option Addr} {m n cap cap2 : Nat} {xs ys : List Nat} {w : World} (hA : Arg w (.slice a m cap) xs) (hB : Arg w (.slice b n cap2) ys) (hx : Low 18446744073709551616 xs) (hy : Low 18446744073709551616 ys) (hm1 : mayM R R m = true) (hm2 : mayM R c n = true) :
    Calls Try.prog 27 #[.agg #[.int .i64 (R : Int), .int .i64 (R : Int), .slice a m cap], .bool up, .bool unit, .agg #[.int .i64 (R : Int), .int .i64 (c : Int), .slice b n cap2]] w fun e W' => ∃ b3 n3 c3, e = .returned (.agg #[.int .i64 (R : Int), .int .i64 (c : Int), .slice b3 n3 c3]) ∧ New w.heap.size W' (.slice b3 n3 c3) (solX up R c xs unit ys R) ∧ Below w.heap.size w W' := by
  have hpos : 0 < w.heap.size := by obtain ⟨S, hS, _⟩ := hA; omega
  have hmx : m = xs.length := by
    obtain ⟨a', c', e⟩ := hA.slice
    simp only [Value.slice.injEq] at e
    omega
  have hnx : n = ys.length := by
    obtain ⟨a', c', e⟩ := hB.slice
    simp only [Value.slice.injEq] at e
    omega
  obtain ⟨p1, p2, p3, p4, p5⟩ := mayM_iff.1 hm1
  obtain ⟨q1, q2, q3, q4, q5⟩ := mayM_iff.1 hm2
  have hmn : m = R * R := by rw [← Int.natCast_mul] at p5; omega
  have hnn : n = R * c := by rw [← Int.natCast_mul] at q5; omega
  have hRR : R * R ≤ 64 * 64 := Nat.mul_le_mul (by omega) (by omega)
  have hRc : R * c ≤ 64 * 64 := Nat.mul_le_mul (by omega) (by omega)
  have hRc0 : 0 < R * c := Nat.mul_pos (by omega) (by omega)
  obtain ⟨S, off, cp, e, HX⟩ := tri_at hA (by rw [← hmx, hmn]; exact Nat.mul_pos (by omega) (by omega))
  simp only [Value.slice.injEq] at e
  obtain ⟨rfl, -, rfl⟩ := e
  obtain ⟨S2, off2, cp2, e, -⟩ := tri_at hB (by rw [← hnx, hnn]; exact hRc0)
  simp only [Value.slice.injEq] at e
  obtain ⟨rfl, -, rfl⟩ := e
  obtain ⟨XL, hXL⟩ : ∃ f, f = solX up R c xs unit ys := ⟨_, rfl⟩
  have hXl : ∀ k, k ≤ R → (XL k).length = R * c := by rw [hXL]; exact solX_length (by rw [← hnx]; exact hnn)
  have hXw : ∀ k, Low 18446744073709551616 (XL k) := by rw [hXL]; exact solX_low hy
  -- the row, first and count
  have HIX : Hid (∀ k, k < R → ∃ I F T R1 : Nat, I < R ∧ F + k = T ∧ T ≤ R ∧ I = rowI up R k ∧ F = fstI up R k ∧ IntKind.i64.wrap ((k : Int) * (c : Int)) = IntKind.i64.wrap ((k : Int) * (c : Int)) ∧
      ((up = false ∧ I = k ∧ F = 0 ∧ T = k) ∨ (up = true ∧ T = R ∧ IntKind.i64.wrap ((R : Int) - 1) = (R1 : Int) ∧ IntKind.i64.wrap ((R1 : Int) - (k : Int)) = (I : Int) ∧ IntKind.i64.wrap ((I : Int) + 1) = (F : Int)))) := Lib.hid (fun k hk => by
    refine ⟨rowI up R k, fstI up R k, fstI up R k + k, R - 1, rowI_lt hk, rfl, ?_, rfl, rfl, rfl, ?_⟩
    · unfold fstI; split <;> omega
    · cases up
      · refine .inl ⟨rfl, rfl, rfl, ?_⟩
        unfold fstI; rw [if_neg (by decide)]; omega
      · have e1 : ((R : Int) - 1) = ((R - 1 : Nat) : Int) := by omega
        have e2 : (((R - 1 : Nat) : Int) - (k : Int)) = ((rowI true R k : Nat) : Int) := by unfold rowI; rw [if_pos rfl]; omega
        have e3 : (((rowI true R k : Nat) : Int) + 1) = ((fstI true R k : Nat) : Int) := by unfold rowI fstI; rw [if_pos rfl, if_pos rfl]; omega
        have l1 := rowI_lt (up := true) hk
        have l2 : fstI true R k ≤ 64 := by unfold fstI; rw [if_pos rfl]; omega
        refine .inr ⟨rfl, by unfold fstI; rw [if_pos rfl]; omega, ?_, ?_, ?_⟩
        · rw [e1]; exact IntWalk.i64_in _ (by omega)
        · rw [e2]; exact IntWalk.i64_in _ (by omega)
        · rw [e3]; exact IntWalk.i64_in _ (by omega))
  have hfit : ∀ j, j < R → j * c + c ≤ R * c := fun j hj => by
    have := Nat.mul_le_mul_right c (show j + 1 ≤ R from hj)
    rw [Nat.add_mul, Nat.one_mul] at this
    exact this
  have hfitR : ∀ j, j < R → j * R + R ≤ R * R := fun j hj => by
    have := Nat.mul_le_mul_right R (show j + 1 ≤ R from hj)
    rw [Nat.add_mul, Nat.one_mul] at this
    exact this
  obtain ⟨QL, hQL⟩ : ∃ f, f = fun k j => qL R c xs (XL k) (rowI up R k) (fstI up R k) k unit j := ⟨_, rfl⟩
  obtain ⟨LS, hLS⟩ : ∃ f, f = fun k t j => lesM R c xs (XL k) (rowI up R k) (fstI up R k) t j := ⟨_, rfl⟩
  have HQ0 : Hid (∀ k, k < R → XL k = QL k 0) := Lib.hid (fun k hk => by rw [hQL]; exact (qL_zero (by rw [hXl k (by omega)]; exact rowI_fit hk)).symm)
  have HQC : Hid (∀ k, k < R → QL k c = XL (k + 1)) := Lib.hid (fun k hk => by rw [hQL]; dsimp only; rw [qL_all, hXL]; rfl)
  have HQL : Hid (∀ k j, k < R → (zn (QL k j)).length = n) := Lib.hid (fun k j hk => by rw [zn_length, hQL]; dsimp only; rw [qL_length (by rw [hXl k (by omega)]; exact rowI_fit hk), hXl k (by omega), hnn])
  have HLS : Hid (∀ k t j, ((LS k t j : Nat) : Int) ≤ 18446744073709551615) := Lib.hid (fun k t j => by rw [hLS]; have := lesM_lt (R := R) (c := c) (ts := xs) (X := XL k) (i := rowI up R k) (first := fstI up R k) (hXw k) t j; dsimp only; omega)
  -- the number at row I, place j
  have HN : Hid (∀ k I j, k < R → I = rowI up R k → j < c → ∃ P Q : Nat, IntKind.i64.wrap ((I : Int) * (c : Int)) = (Q : Int) ∧ IntKind.i64.wrap ((Q : Int) + (j : Int)) = (P : Int) ∧ P < n ∧ zat (zn (QL k j)) P = ((LS k 0 j : Nat) : Int) ∧
      ∀ z : Nat, z = solN R c xs (XL k) (rowI up R k) (fstI up R k) k unit j → (zn (QL k j)).set P (z : Int) = zn (QL k (j + 1))) := Lib.hid (fun k I j hk hI hj => by
    subst hI
    have h1 := rowI_fit (c := c) (up := up) hk
    have h2 : rowI up R k * c + c ≤ (XL k).length := by rw [hXl k (by omega)]; exact h1
    refine ⟨rowI up R k * c + j, rowI up R k * c, by rw [← Int.natCast_mul]; exact IntWalk.i64_in _ (by omega), by rw [← Int.natCast_add]; exact IntWalk.i64_in _ (by omega), by omega, ?_, fun z hz => ?_⟩
    · rw [hQL, hLS]
      dsimp only
      rw [zn_at (by rw [qL_length h2]; omega), qL_at h2 hj]
    · rw [hz, hQL]
      dsimp only
      rw [← zn_set, qL_set h2 hj])
  -- a product taken away
  have HT : Hid (∀ k I F j t, k < R → I = rowI up R k → F = fstI up R k → j < c → t < k → ∃ P Q x P2 Q2 y K : Nat, K = F + t ∧ IntKind.i64.wrap ((I : Int) * (R : Int)) = (Q : Int) ∧ IntKind.i64.wrap ((Q : Int) + (K : Int)) = (P : Int) ∧ P < m ∧ (x : Int) ≤ 18446744073709551615 ∧ (∀ W, Below w.heap.size w W → W.cell? ⟨S, off + P, none⟩ = some (.int .u64 (x : Int))) ∧
      IntKind.i64.wrap ((K : Int) * (c : Int)) = (Q2 : Int) ∧ IntKind.i64.wrap ((Q2 : Int) + (j : Int)) = (P2 : Int) ∧ P2 < n ∧ zat (zn (QL k j)) P2 = (y : Int) ∧ (y : Int) ≤ 18446744073709551615 ∧ LS k (t + 1) j = minusU (LS k t j) (timesU x y)) := Lib.hid (fun k I F j t hk hI hF hj ht => by
    subst hI hF
    have hl : fstI up R k + t < R := by unfold fstI; split <;> omega
    have hne : rowI up R k ≠ fstI up R k + t := by unfold rowI fstI; split <;> omega
    have h1 := hfitR _ (rowI_lt (up := up) hk)
    have h2 := hfit _ hl
    have h3 : rowI up R k * c + c ≤ (XL k).length := by rw [hXl k (by omega)]; exact rowI_fit hk
    have hP : rowI up R k * R + (fstI up R k + t) < R * R := by omega
    have hlo := lim_lt_low hx (rowI up R k * R + (fstI up R k + t))
    have hlo2 := lim_lt_low (hXw k) ((fstI up R k + t) * c + j)
    refine ⟨rowI up R k * R + (fstI up R k + t), rowI up R k * R, lim xs (rowI up R k * R + (fstI up R k + t)), (fstI up R k + t) * c + j, (fstI up R k + t) * c, lim (XL k) ((fstI up R k + t) * c + j), fstI up R k + t, rfl,
      by rw [← Int.natCast_mul]; exact IntWalk.i64_in _ (by omega), by rw [← Int.natCast_add]; exact IntWalk.i64_in _ (by omega), by omega, by omega, fun W h => HX.out W h _ (by omega),
      by rw [← Int.natCast_mul]; exact IntWalk.i64_in _ (by omega), by rw [← Int.natCast_add]; exact IntWalk.i64_in _ (by omega), by omega, ?_, by omega, ?_⟩
    · rw [hQL]
      dsimp only
      rw [zn_at (by rw [qL_length h3, hXl k (by omega)]; omega), qL_else h3 hj hne]
    · rw [hLS]; rfl)
  -- the last number
  have HD : Hid (∀ k I j, k < R → I = rowI up R k → j < c → ∃ P Q x z f : Nat, IntKind.i64.wrap ((I : Int) * (R : Int)) = (Q : Int) ∧ IntKind.i64.wrap ((Q : Int) + (I : Int)) = (P : Int) ∧ P < m ∧ (x : Int) ≤ 18446744073709551615 ∧ (∀ W, Below w.heap.size w W → W.cell? ⟨S, off + P, none⟩ = some (.int .u64 (x : Int))) ∧
      (∀ W, Calls Try.prog 73 #[.int .u64 ((LS k k j : Nat) : Int), .int .u64 (x : Int), .int .i64 0] W fun e W' => e = .returned (.tuple #[.int .u64 (z : Int), .int .i64 (f : Int)]) ∧ Below W.heap.size W W') ∧ (unit = false → z = solN R c xs (XL k) (rowI up R k) (fstI up R k) k unit j) ∧ (unit = true → LS k k j = solN R c xs (XL k) (rowI up R k) (fstI up R k) k unit j)) := Lib.hid (fun k I j hk hI hj => by
    subst hI
    have h1 := hfitR _ (rowI_lt (up := up) hk)
    have hl := rowI_lt (up := up) hk
    have hlo := lim_lt_low hx (rowI up R k * R + rowI up R k)
    have hL := HLS.out k k j
    refine ⟨rowI up R k * R + rowI up R k, rowI up R k * R, lim xs (rowI up R k * R + rowI up R k), quotU (LS k k j) (lim xs (rowI up R k * R + rowI up R k)), (rdiv6 (LS k k j) (lim xs (rowI up R k * R + rowI up R k)) 0).2,
      by rw [← Int.natCast_mul]; exact IntWalk.i64_in _ (by omega), by rw [← Int.natCast_add]; exact IntWalk.i64_in _ (by omega), by omega, by omega, fun W h => HX.out W h _ (by omega), fun W => fdiv_div (by omega) (by omega), fun h => ?_, fun h => ?_⟩
    · rw [h, hLS]; rfl
    · rw [h, hLS]; rfl)
  have HX0 : Hid (zn ys = zn (XL 0) ∧ (zn ys).length = n ∧ 0 < n ∧ ([] : List Int).length + ys.length ≤ 17592186044416 ∧ solX up R c xs unit ys R = XL R) := Lib.hid (by rw [hXL, zn_length]; exact ⟨rfl, hnx.symm, by omega, by simp; omega, rfl⟩)
  obtain ⟨B0, G1, G2, hw1⟩ := vboxm w #[.int .i64 (R : Int), .int .i64 (R : Int), .slice (some ⟨S, off, none⟩) m cap] #[.int .i64 (R : Int), .int .i64 (c : Int), .slice (some ⟨S2, off2, none⟩) n cap2] 24 24 _ rfl
  obtain ⟨j3, G3⟩ := mbox ((w.alloc (.cells #[.int .i64 (R : Int), .int .i64 (R : Int), .slice (some ⟨S, off, none⟩) m cap] 24)).alloc (.cells #[.int .i64 (R : Int), .int .i64 (c : Int), .slice (some ⟨S2, off2, none⟩) n cap2] 24)) #[.int .i64 0, .int .i64 0, .slice none 0 0] 24 _ rfl
  replace G1 := G1.behind j3
  replace G2 := G2.behind j3
  replace B0 := below_both B0 j3
  simp only [World.size_alloc] at G3
  have hsz : (((w.alloc (.cells #[.int .i64 (R : Int), .int .i64 (R : Int), .slice (some ⟨S, off, none⟩) m cap] 24)).alloc (.cells #[.int .i64 (R : Int), .int .i64 (c : Int), .slice (some ⟨S2, off2, none⟩) n cap2] 24)).alloc (.cells #[.int .i64 0, .int .i64 0, .slice none 0 0] 24)).heap.size = w.heap.size + 3 := by simp only [World.size_alloc]
  have HB := Lib.hid (fun W (h : Below w.heap.size w W) => hB.behind h)
  rw [HX0.out.2.2.2.2]
  have c0 := G1.cell (i := 0) rfl
  have c1 := G1.cell (i := 1) rfl
  have c2 := G1.cell (i := 2) rfl
  have d0 := G2.cell (i := 0) rfl
  have d1 := G2.cell (i := 1) rfl
  have d2 := G2.cell (i := 2) rfl
  have hR64 : (R : Int) ≤ 64 := by omega
  have hc64 : (c : Int) ≤ 64 := by omega
  clear hA hB hx hy hm1 hm2 hmx hnx p1 p2 p3 p4 p5 q1 q2 q3 q4 q5 hmn hnn hRR hRc hRc0 HX hXL hXl hXw hfit hfitR hQL hLS hw1 j3
  go_enter Try.func27, Try.ntmps27
  go_upto_region 1 with (fail)
  generalize ((w.alloc (.cells #[.int .i64 (R : Int), .int .i64 (R : Int), .slice (some ⟨S, off, none⟩) m cap] 24)).alloc (.cells #[.int .i64 (R : Int), .int .i64 (c : Int), .slice (some ⟨S2, off2, none⟩) n cap2] 24)).alloc (.cells #[.int .i64 0, .int .i64 0, .slice none 0 0] 24) = V0 at *
  have HV0 : Hid (V0.heap.size = w.heap.size + 3) := Lib.hid hsz
  clear hsz
  go_cut [9, 10] from 9 to 22 (fun x y wz => x = .int .i64 (R : Int) ∧ y = .int .i64 (c : Int) ∧ Below V0.heap.size V0 wz)
  case first =>
    go_quiet (fail)
    go_wp2_with fail
    go_meet
    exact ⟨rfl, rfl, below_drewN _ _ _⟩
  obtain ⟨rfl, rfl, bV⟩ := hcut
  obtain ⟨W0, rfl⟩ : ∃ wo, wo = wc := ⟨_, rfl⟩
  replace G1 := G1.behind bV
  replace G2 := G2.behind bV
  replace G3 := G3.behind bV
  replace B0 := below_both B0 bV
  have hsz : w.heap.size + 3 ≤ W0.heap.size := by have := HV0.out; have := bV.size; omega
  clear bV c0 c1 c2 d0 d1 d2
  have hoe := own_emp W0
  have bE := bel_new W0 (.cells #[] 32)
  have HAR := Lib.hid (HB.out _ (below_both B0 bE))
  have hlen := HX0.out.2.2.2.1
  have hbs := bE.size
  have HW0 : Hid (w.heap.size + 3 ≤ W0.heap.size) := Lib.hid hsz
  have HB0 := Lib.hid B0
  have HG := Lib.hid (And.intro G1 G3)
  have e2' : (W0.alloc (.cells #[] 32)).cell? ⟨w.heap.size + 1, 2, none⟩ = some (.slice (some ⟨S2, off2, none⟩) n cap2) := (G2.behind bE).cell (i := 2) rfl
  clear hsz G1 G3 B0
  go_upto_region 3 with (at_builtin; refine app_list rfl _ _ rfl rfl rfl HAR.out (.inr ⟨_, _, _, rfl⟩) hoe hlen hbs ?_; intro v' w3 ho3 b3; rw [List.nil_append] at ho3; (obtain ⟨d, c8, hev, hd1, hd2⟩ := ho3.form (by rw [HX0.out.2.1]; exact HX0.out.2.2.1)); rw [HX0.out.2.1] at hev; subst hev)
  have hb3 : Below W0.heap.size W0 w3 := bE.trans b3
  have HB3 := Lib.hid (below_both HB0.out hb3)
  obtain ⟨k4, L⟩ := mbox w3 #[.int .i64 (R : Int), .int .i64 (c : Int), .slice (some ⟨d, 0, none⟩) n c8] 24 _ rfl
  have HO4 := Lib.hid ((OwnK.mono ho3 (show w.heap.size ≤ W0.heap.size by have := HW0.out; omega)).alloc (.cells #[.int .i64 (R : Int), .int .i64 (c : Int), .slice (some ⟨d, 0, none⟩) n c8] 24))
  have HB4 := Lib.hid (below_both HB3.out k4)
  have K1 := (HG.out.1.behind hb3).behind k4
  have K3 := (HG.out.2.behind hb3).behind k4
  have HSZ : Hid (w.heap.size + 3 ≤ d ∧ d < w3.heap.size) := Lib.hid (by have := HW0.out; omega)
  clear e2' hoe bE hlen hbs hd1 hd2 hb3 b3 k4 ho3 HAR HB
  go_wp2_with fail
  generalize w3.alloc (.cells #[.int .i64 (R : Int), .int .i64 (c : Int), .slice (some ⟨d, 0, none⟩) n c8] 24) = w4 at *
  go_loopw [12] (fun i wr => ∃ k : Nat, k ≤ R ∧ i = .int .i64 k ∧ OwnK .u64 32 w.heap.size wr (.slice (some ⟨d, 0, none⟩) n c8) (zn (XL k)) ∧ But1 d w4 wr ∧ Below w.heap.size w wr) (fun i _ => R - (intOf i).toNat)
  case atStart => exact ⟨0, Nat.zero_le _, rfl, by rw [← HX0.out.1]; exact HO4.out, But1.refl _ _, HB4.out⟩
  case round =>
    obtain ⟨k, hk, rfl, ho, hU, hBb⟩ := hrel
    obtain ⟨w5, rfl⟩ : ∃ wo, wo = wr := ⟨_, rfl⟩
    have M1 := hU.ms K1 (by have := HSZ.out; omega)
    have ML := hU.ms L (by have := HSZ.out; omega)
    by_cases hlt : k < R
    · obtain ⟨I, F, TT, R1, hI, hT, hTR, eI, eF, -, hways⟩ := HIX.out k hlt
      have q : decide ((k : Int) < (R : Int)) = true := decide_eq_true (by omega)
      have HI := Lib.hid (And.intro hlt (And.intro eI (And.intro eF (And.intro hT hTR))))
      have HWY := Lib.hid hways
      have HOO := Lib.hid ho
      have HUU := Lib.hid hU
      have HBB := Lib.hid hBb
      have HM := Lib.hid (And.intro M1 ML)
      have hkR : (k : Int) ≤ 64 := by omega
      have hI64 : (I : Int) ≤ 64 := by omega
      clear hT hTR eI eF hways ho hU hBb M1 ML hI
      go_upto_if 37 with (fail)
      go_cut [13, 14, 15] from 33 to 44 (fun x y z wz => x = .int .i64 (I : Int) ∧ y = .int .i64 (F : Int) ∧ z = .int .i64 (TT : Int) ∧ wz = w5)
      case first =>
        rcases HWY.out with ⟨h1, h2, h3, h4⟩ | ⟨h1, h2, h3, h4, h5⟩
        · subst h1
          go_wp2_with fail
          go_meet
          exact ⟨by rw [h2], by rw [h3]; rfl, by rw [h4], rfl⟩
        · subst h1
          subst h2
          go_wp2_with fail
          go_meet
          exact ⟨rfl, rfl, rfl, rfl⟩
      obtain ⟨rfl, rfl, rfl, rfl⟩ := hcut
      obtain ⟨w6, rfl⟩ : ∃ wo, wo = wc := ⟨_, rfl⟩
      go_wp2
      go_loopw [16] (fun i wv => ∃ j : Nat, j ≤ c ∧ i = .int .i64 j ∧ OwnK .u64 32 w.heap.size wv (.slice (some ⟨d, 0, none⟩) n c8) (zn (QL k j)) ∧ But1 d w6 wv ∧ Below w.heap.size w wv) (fun i _ => c - (intOf i).toNat)
      case atStart => exact ⟨0, Nat.zero_le _, rfl, by rw [← HQ0.out k HI.out.1]; exact HOO.out, But1.refl _ _, HBB.out⟩
      case round =>
        obtain ⟨j, hj, rfl, ho, hU, hBb⟩ := hrel
        obtain ⟨w7, rfl⟩ : ∃ wo, wo = wr := ⟨_, rfl⟩
        have M1 := hU.ms HM.out.1 (by have := HSZ.out; omega)
        have ML := hU.ms HM.out.2 (by have := HSZ.out; have := HB4.out.size; have := HUU.out.1; omega)
        by_cases hlt2 : j < c
        · obtain ⟨P, Q, e1, e2, hP, hz, hset⟩ := HN.out k I j HI.out.1 HI.out.2.1 hlt2
          have q2 : decide ((j : Int) < (c : Int)) = true := decide_eq_true (by omega)
          have kz := ho.cell (j := P) (by rw [HQL.out k j HI.out.1]; exact hP)
          rw [hz] at kz
          have m2 := ML.cell (i := 2) rfl
          have HSET := Lib.hid hset
          have HO7 := Lib.hid ho
          have HU7 := Lib.hid hU
          have HB7 := Lib.hid hBb
          have HM7 := Lib.hid (And.intro M1 ML)
          have HJ := Lib.hid hlt2
          have hF64 : (F : Int) ≤ 64 := by have := HI.out.2.2.2; omega
          have hT64 : (TT : Int) ≤ 64 := by have := HI.out.2.2.2; omega
          have hj64 : (j : Int) ≤ 64 := by omega
          clear hset ho hU hBb M1 ML hz
          go_wp2
          go_loopw [17, 18] (fun s q wu => ∃ t G : Nat, t ≤ k ∧ G = F + t ∧ s = .int .u64 ((LS k t j : Nat) : Int) ∧ q = .int .i64 (G : Int) ∧ OwnK .u64 32 w.heap.size wu (.slice (some ⟨d, 0, none⟩) n c8) (zn (QL k j)) ∧ But1 d w7 wu ∧ Below w.heap.size w wu) (fun _ q _ => TT - (intOf q).toNat)
          case atStart => exact ⟨0, F, Nat.zero_le _, rfl, rfl, rfl, HO7.out, But1.refl _ _, HB7.out⟩
          case round =>
            clear m2 kz
            obtain ⟨t, G, ht, hG, rfl, rfl, ho, hU, hBb⟩ := hrel
            have M1 := hU.ms HM7.out.1 (by have := HSZ.out; omega)
            have ML := hU.ms HM7.out.2 (by have := HSZ.out; have := HB4.out.size; have := HUU.out.1; have := HU7.out.1; omega)
            by_cases hlt3 : t < k
            · obtain ⟨P5, Q5, x, P6, Q6, y, K, hK, f1, f2, f3, f4, f5, f6, f7, f8, f9, f10, f11⟩ := HT.out k I F j t HI.out.1 HI.out.2.1 HI.out.2.2.1 HJ.out hlt3
              obtain rfl : K = G := by omega
              have q3 : decide ((K : Int) < (TT : Int)) = true := decide_eq_true (by have := HI.out.2.2.2; omega)
              have hls := HLS.out k t j
              have HLSS := Lib.hid (fun W => l22_less (w := W) hls f4 f10)
              rw [← f11] at HLSS
              have HC : Hid (∀ W, Below wr.heap.size wr W → W.cell? ⟨w.heap.size, 2, none⟩ = some (.slice (some ⟨S, off, none⟩) m cap) ∧ W.cell? ⟨S, off + P5, none⟩ = some (.int .u64 (x : Int)) ∧ W.cell? ⟨w3.heap.size, 2, none⟩ = some (.slice (some ⟨d, 0, none⟩) n c8) ∧ W.cell? ⟨d, P6, none⟩ = some (.int .u64 (y : Int))) := Lib.hid (fun W h =>
                ⟨(M1.behind h).cell (i := 2) rfl, f5 W (hBb.trans (h.mono hBb.size)), (ML.behind h).cell (i := 2) rfl, by have := (ho.below h).cell (j := P6) (by rw [HQL.out k j HI.out.1]; exact f8); rw [f9] at this; exact this⟩)
              have HOK := Lib.hid ho
              have HUK := Lib.hid hU
              have HBK := Lib.hid hBb
              have HGT : Hid (K + 1 = F + (t + 1) ∧ t + 1 ≤ k ∧ K < TT) := Lib.hid (by have := HI.out.2.2.2; omega)
              have Br : Below wr.heap.size wr wr := Below.refl _ _
              have hK64 : (K : Int) ≤ 64 := by have := HGT.out; omega
              clear f5 f9 f11 ho hU hBb hls M1 ML hG hK hlt3 ht
              generalize LS k t j = ls at *
              obtain ⟨ls2, hl2⟩ : ∃ q, q = LS k (t + 1) j := ⟨_, rfl⟩
              rw [← hl2] at HLSS
              have HL2 := Lib.hid hl2
              clear hl2
              have q4 : K < TT := HGT.out.2.2
              go_upto_region 17 with (fail)
              go_region_held3 (fun W => W.cell? ⟨w.heap.size, 2, none⟩ = some (.slice (some ⟨S, off, none⟩) m cap) ∧ W.cell? ⟨S, off + P5, none⟩ = some (.int .u64 (x : Int)) ∧ W.cell? ⟨w3.heap.size, 2, none⟩ = some (.slice (some ⟨d, 0, none⟩) n c8) ∧ W.cell? ⟨d, P6, none⟩ = some (.int .u64 (y : Int)))
                (first | with_reducible exact HC.out _ Br | with_reducible exact HC.out _ Br.drew)
                (first
                  | (go_at_call 72; (with_reducible refine (HLSS.out _).mono ?_); rintro e v4 ⟨rfl, bz⟩; replace Br : Below wr.heap.size wr v4 := (by first | with_reducible exact below_both Br bz | with_reducible exact below_both Br.drew bz); clear bz)
                  | (fail))
              all_goals
                go_wp2_with fail
                exact ⟨⟨t + 1, K + 1, HGT.out.2.1, HGT.out.1, by rw [HL2.out], by simp, HOK.out.below Br, HUK.out.below Br, HBK.out.trans (Br.mono HBK.out.size)⟩, by have := HGT.out; simp [intOf]; omega⟩
            · obtain rfl : t = k := by omega
              have q3 : decide ((G : Int) < (TT : Int)) = false := decide_eq_false (by have := HI.out.2.2.2; omega)
              have q4 : ¬ G < TT := by have := HI.out.2.2.2; omega
              obtain ⟨P5, Q5, x, z, f, f1, f2, f3, f4, f5, f6, f7, f8⟩ := HD.out t I j HI.out.1 HI.out.2.1 HJ.out
              have k2 := ML.cell (i := 2) rfl
              have kp := ho.cell (j := P) (by rw [HQL.out t j HI.out.1]; exact hP)
              have kf := ho.frozen P
              cases unit
              · have HZ := Lib.hid (HSET.out z (f7 rfl))
                have HDV := Lib.hid f6
                have k1 := M1.cell (i := 2) rfl
                have kt := f5 _ hBb
                have HOK := Lib.hid ho
                have HUK := Lib.hid hU
                have HBK := Lib.hid hBb
                have HMK := Lib.hid ML
                clear f5 f6 f7 f8 ho hU hBb hlt3 ht hG M1 ML k2 kp kf
                generalize LS t t j = ls at *
                go_wp2_with fail
                refine (HDV.out _).mono ?_
                rintro e w8 ⟨rfl, b8⟩
                have ho8 := HOK.out.below b8
                have k2 := (HMK.out.behind b8).cell (i := 2) rfl
                have kp := ho8.cell (j := P) (by rw [HQL.out t j HI.out.1]; exact hP)
                have kf := ho8.frozen P
                have HO8 := Lib.hid ho8
                have HU8 := Lib.hid ((HU7.out.trans2 HUK.out).below b8)
                have HB8 := Lib.hid (HBK.out.trans (b8.mono HBK.out.size))
                clear b8 k1 kt ho8
                go_wp2
                exact ⟨⟨j + 1, by omega, by simp, by rw [← HZ.out]; exact HO8.out.set P z, HU8.out.put (fun q hq => Below.heap_setCell w8 ⟨d, P, none⟩ _ q hq) (World.size_setCell _ _ _), HB8.out.setCell (p := ⟨d, P, none⟩) (show w.heap.size ≤ d by have := HSZ.out; omega) _⟩, by have := HJ.out; simp [intOf]; omega⟩
              · have HZ := Lib.hid (HSET.out _ (f8 rfl))
                have HOK := Lib.hid ho
                have HUK := Lib.hid (HU7.out.trans2 hU)
                have HBK := Lib.hid hBb
                clear f5 f6 f7 f8 ho hU hBb hlt3 ht hG M1 ML
                generalize LS t t j = ls at *
                go_wp2
                exact ⟨⟨j + 1, by omega, by simp, by rw [← HZ.out]; exact HOK.out.set P ls, HUK.out.put (fun q hq => Below.heap_setCell wr ⟨d, P, none⟩ _ q hq) (World.size_setCell _ _ _), HBK.out.setCell (p := ⟨d, P, none⟩) (show w.heap.size ≤ d by have := HSZ.out; omega) _⟩, by have := HJ.out; simp [intOf]; omega⟩
        · obtain rfl : j = c := by omega
          have q2 : decide ((j : Int) < (j : Int)) = false := decide_eq_false (by omega)
          have HOK := Lib.hid ho
          have HUK := Lib.hid (HUU.out.trans2 hU)
          have HBK := Lib.hid hBb
          clear ho hU hBb hlt2 M1 ML
          go_wp2
          exact ⟨⟨k + 1, by have := HI.out.1; omega, by simp, by rw [← HQC.out k HI.out.1]; exact HOK.out, HUK.out, HBK.out⟩, by have := HI.out.1; simp [intOf]; omega⟩
    · obtain rfl : k = R := by omega
      have q : decide ((k : Int) < (k : Int)) = false := decide_eq_false (by omega)
      have d0 := ML.cell (i := 0) rfl
      have d1 := ML.cell (i := 1) rfl
      have d2 := ML.cell (i := 2) rfl
      have M3 := hU.ms K3 (by have := HSZ.out; omega)
      have g0 := M3.cell (i := 0) rfl
      have g1 := M3.cell (i := 1) rfl
      have g2 := M3.cell (i := 2) rfl
      have f0 := M3.f 0
      have f1 := M3.f 1
      have f2 := M3.f 2
      have HOO := Lib.hid ho
      have HBX := Lib.hid hBb
      have hsw : 0 < w5.heap.size := by have := hBb.size; omega
      clear ho hU hBb hlt M1 ML M3
      go_wp2
      exact bodyPost_ret (v := .agg #[.int .i64 (k : Int), .int .i64 (c : Int), .slice (some ⟨d, 0, none⟩) n c8]) (by simp [results, Try.results27, go_sem, g0, g1, g2]) rfl
        ⟨_, _, _, rfl, new_zn.2 ((HOO.out.other (heap_put3' (by have := HSZ.out; omega))).new (by simpa only [World.size_setCell] using hsw)), HBX.out.put3 (by omega) _ _ _⟩
end Go.Proofs.Ytdonecohnemomaa

/- vernierlaw22: alive. -/
namespace Go.Proofs.Ytdonecohnemomaa
open Go.RowKit Go.Shelf
theorem l22_e : trE false 1 1 1 [4611686018427387904] 1 1 1 [4611686018427387904] false = 0 := by
  unfold trE
  show tellV (solX false 1 1 [4611686018427387904] false [4611686018427387904] 1) _ = 0
  rw [l22_sol]
  decide
theorem l22_x : trX false 1 1 [4611686018427387904] false [4611686018427387904] = [4607182418800017408] := l22_sol
set_option maxRecDepth 100000 in
set_option maxHeartbeats 8000000 in
theorem l22_alive (w : World) : Calls Try.prog 23 #[] w fun e W' => e = .returned (.bool true) ∧ Below w.heap.size w W' := by
  obtain ⟨b1, F1⟩ := mbox w #[.int .u64 4611686018427387904] 32 _ rfl
  obtain ⟨b2, G⟩ := mbox (w.alloc (.cells #[.int .u64 4611686018427387904] 32)) #[.int .i64 1, .int .i64 1, .slice (some ⟨w.heap.size, 0, none⟩) 1 1] 24 _ rfl
  have af : Arg ((w.alloc (.cells #[.int .u64 4611686018427387904] 32)).alloc (.cells #[.int .i64 1, .int .i64 1, .slice (some ⟨w.heap.size, 0, none⟩) 1 1] 24)) (.slice (some ⟨w.heap.size, 0, none⟩) 1 1) [4611686018427387904] := (arg_one w (x := 4611686018427387904)).behind b2
  have hl : Low 18446744073709551616 [4611686018427387904] := by intro y hy; simp only [List.mem_cons, List.not_mem_nil, or_false] at hy; subst hy; decide
  have h := tri_lower (R := 1) (C := 1) (R2 := 1) (C2 := 1) (unit := false) af af hl hl
  rw [l22_e, if_pos rfl, l22_x] at h
  have BB := Lib.hid (below_both b1 b2)
  have c0 := G.cell (i := 0) rfl
  have c1 := G.cell (i := 1) rfl
  have c2 := G.cell (i := 2) rfl
  simp only [World.size_alloc] at c0 c1 c2
  clear af hl b1 b2 F1 G
  go_enter Try.func23, Try.ntmps23
  go_wp2_with fail
  refine h.mono ?_
  rintro e w1 ⟨R3, C3, b3, n3, c3, rfl, hN, -, -, hB⟩
  obtain ⟨S, a', c', hS, ev, -, HV⟩ := (new_zn.1 hN).opened
  simp only [Value.slice.injEq] at ev
  obtain ⟨rfl, rfl, rfl⟩ := ev
  have hz := (newb w1 (.cells #[.int .i64 R3, .int .i64 C3, .slice b3 (zn [4607182418800017408]).length c3] 24))
  obtain ⟨off, rfl, kv⟩ := HV.out _ (hz.block S hS) 0 (by decide)
  have HB := Lib.hid (below_both BB.out (below_both hB hz))
  clear h hN HV hB hz c0 c1 c2
  have hlen : (zn [4607182418800017408]).length = 1 := rfl
  have kv2 : ((w1.alloc (.cells #[.int .i64 R3, .int .i64 C3, .slice (some ⟨S, off, none⟩) (zn [4607182418800017408]).length c3] 24)).cell? ⟨S, off, none⟩) = some (.int .u64 4607182418800017408) := kv
  rw [hlen] at kv2 HB ⊢
  clear kv hlen
  go_wp2
  go_ret
  exact ⟨rfl, HB.out⟩
end Go.Proofs.Ytdonecohnemomaa

/- vernierlaw22: TriTells, walked. -/
namespace Go.Proofs.Ytdonecohnemomaa
open Go.RowKit Go.Shelf
/-- all but the sign shifted out -/
theorem l22_shl {x : Nat} (hx : x < 18446744073709551616) : (IntKind.u64.wrap ((x : Int) * 2) = 0) ↔ cls x = 0 := by
  have h1 : IntKind.u64.wrap ((x : Int) * 2) = (((x * 2) % 18446744073709551616 : Nat) : Int) := by
    show ((x : Int) * 2) % 18446744073709551616 = _
    omega
  rw [h1, cls_mag]
  have hm : mag x = x % 9223372036854775808 := rfl
  constructor
  · intro h
    have : mag x = 0 := by omega
    rw [if_neg (by omega), if_neg (by omega), if_pos this]
  · intro h
    by_cases a : 9218868437227405313 ≤ mag x
    · rw [if_pos a] at h; exact absurd h (by decide)
    · rw [if_neg a] at h
      by_cases b : mag x = 9218868437227405312
      · rw [if_pos b] at h; exact absurd h (by decide)
      · rw [if_neg b] at h
        by_cases c : mag x = 0
        · omega
        · rw [if_neg c] at h; exact absurd h (by decide)
theorem diagZ_no {C : Nat} {xs : List Nat} {k : Nat} (h : diagZ C xs k = false) {i : Nat} (hi : i < k) : cls (lim xs (i * C + i)) ≠ 0 := by
  intro hc
  have : diagZ C xs (i + 1) = true := by unfold diagZ; rw [decide_eq_true hc, Bool.or_true]
  rw [diagZ_up this (by omega)] at h
  cases h
theorem diagZ_first {C : Nat} {xs : List Nat} {k : Nat} (h : diagZ C xs k = true) : ∃ i, i < k ∧ cls (lim xs (i * C + i)) = 0 ∧ diagZ C xs i = false := by
  induction k with
  | zero => cases h
  | succ k ih =>
    cases g : diagZ C xs k
    · refine ⟨k, by omega, ?_, g⟩
      unfold diagZ at h
      rw [g, Bool.false_or] at h
      exact of_decide_eq_true h
    · obtain ⟨i, h1, h2, h3⟩ := ih g
      exact ⟨i, by omega, h2, h3⟩
set_option maxRecDepth 100000 in
set_option maxHeartbeats 16000000 in
theorem triTells_calls {R C R2 C2 : Int} {up unit : Bool} {a b : Option Addr} {m n cap cap2 : Nat} {xs ys : List Nat} {w : World} (hA : Arg w (.slice a m cap) xs) (hB : Arg w (.slice b n cap2) ys) (hx : Low 18446744073709551616 xs) (hy : Low 18446744073709551616 ys) (hxn : xs.length ≤ 17592186044416) (hyn : ys.length ≤ 17592186044416) :
    Calls Try.prog 5 #[.agg #[.int .i64 R, .int .i64 C, .slice a m cap], .bool up, .bool unit, .agg #[.int .i64 R2, .int .i64 C2, .slice b n cap2]] w fun e W' => e = .returned (.bool true) ∧ Below w.heap.size w W' := by
  have hmx : m = xs.length := by
    obtain ⟨a', c', e⟩ := hA.slice
    simp only [Value.slice.injEq] at e
    omega
  have hnx : n = ys.length := by
    obtain ⟨a', c', e⟩ := hB.slice
    simp only [Value.slice.injEq] at e
    omega
  obtain ⟨B0, G1, G2, hw1⟩ := vboxm w #[.int .i64 R, .int .i64 C, .slice a m cap] #[.int .i64 R2, .int .i64 C2, .slice b n cap2] 24 24 _ rfl
  have HL := Lib.hid (fun W (h : Below w.heap.size w W) => tri_lower (R := R) (C := C) (R2 := R2) (C2 := C2) (unit := unit) (hA.behind h) (hB.behind h) hx hy)
  have HU := Lib.hid (fun W (h : Below w.heap.size w W) => tri_upper (R := R) (C := C) (R2 := R2) (C2 := C2) (unit := unit) (hA.behind h) (hB.behind h) hx hy)
  have HF1 := Lib.hid (fun W (h : Below w.heap.size w W) => shape_finite (R := R) (C := C) (hA.behind h) hx)
  have HF2 := Lib.hid (fun W (h : Below w.heap.size w W) => shape_finite (R := R2) (C := C2) (hB.behind h) hy)
  have HA := Lib.hid hA
  have HB := Lib.hid hB
  have HLX := Lib.hid (And.intro hx hy)
  have HMN := Lib.hid (And.intro (And.intro hmx hxn) (And.intro hnx hyn))
  obtain ⟨E, hE⟩ : ∃ E, E = trE up R C m xs R2 C2 n ys unit := ⟨_, rfl⟩
  obtain ⟨Z, hZ⟩ : ∃ Z, Z = if E = 0 then trX up R C2 xs unit ys else [] := ⟨_, rfl⟩
  have HE := Lib.hid hE
  have HZ := Lib.hid hZ
  have HZN : Hid (E ≠ 0 → Z = []) := Lib.hid (fun h => by rw [hZ, if_neg h])
  have c0 := G1.cell (i := 0) rfl
  have c1 := G1.cell (i := 1) rfl
  have c2 := G1.cell (i := 2) rfl
  have d0 := G2.cell (i := 0) rfl
  have d1 := G2.cell (i := 1) rfl
  have d2 := G2.cell (i := 2) rfl
  clear hA hB hx hy hxn hyn hmx hnx hE hZ hw1
  go_enter Try.func5, Try.ntmps5
  go_wp2_with fail
  generalize (w.alloc (.cells #[.int .i64 R, .int .i64 C, .slice a m cap] 24)).alloc (.cells #[.int .i64 R2, .int .i64 C2, .slice b n cap2] 24) = W0 at *
  refine (l22_alive _).mono ?_
  rintro e w1 ⟨rfl, b1⟩
  replace B0 := below_both B0 b1
  replace G1 := G1.behind b1
  replace G2 := G2.behind b1
  clear c0 c1 c2 d0 d1 d2 b1
  have c0 := G1.cell (i := 0) rfl
  have c1 := G1.cell (i := 1) rfl
  have c2 := G1.cell (i := 2) rfl
  have d0 := G2.cell (i := 0) rfl
  have d1 := G2.cell (i := 1) rfl
  have d2 := G2.cell (i := 2) rfl
  go_wp2_with fail
  refine (HL.out _ B0).mono ?_
  rintro e w2 ⟨R3, C3, b3, n3, c3, rfl, hN, h4, -, hb2⟩
  replace B0 := below_both B0 hb2
  replace G1 := G1.behind hb2
  replace G2 := G2.behind hb2
  have hg2 := G2.lt
  obtain ⟨k3, G3⟩ := mbox w2 #[.int .i64 R3, .int .i64 C3, .slice b3 n3 c3] 24 _ rfl
  replace B0 := below_both B0 k3
  replace G1 := G1.behind k3
  replace G2 := G2.behind k3
  have HN1 : Hid (up = false → Arg (w2.alloc (.cells #[.int .i64 R3, .int .i64 C3, .slice b3 n3 c3] 24)) (.slice b3 n3 c3) Z) := Lib.hid (fun h => by
    have h2 := hN.arg.behind k3
    rw [HZ.out, HE.out, h]
    exact h2)
  have HL2 : Hid (up = false → trE false R C m xs R2 C2 n ys unit = E ∧ (E = 0 → R3 = R2 ∧ C3 = C2)) := Lib.hid (fun h => by
    rw [HE.out, h]
    exact ⟨rfl, h4⟩)
  clear h4 c0 c1 c2 d0 d1 d2 hb2 k3 hN
  obtain ⟨g9, hg9⟩ : ∃ g, g = w2.heap.size := ⟨_, rfl⟩
  go_upto_if 22 with (fail)
  generalize w2.alloc (.cells #[.int .i64 R3, .int .i64 C3, .slice b3 n3 c3] 24) = w3 at *
  rw [← hg9] at G3 ⊢
  have HG9 : Hid (w.heap.size + 2 ≤ g9 ∧ g9 < w3.heap.size) := Lib.hid ⟨by omega, G3.lt⟩
  clear hg9 hg2
  go_cut [10] from 22 to 29 (fun e10 wz => e10 = .int .i64 E ∧ Below w.heap.size w wz ∧ Ms wz w.heap.size #[.int .i64 R, .int .i64 C, .slice a m cap] 24 ∧ Ms wz (w.heap.size + 1) #[.int .i64 R2, .int .i64 C2, .slice b n cap2] 24 ∧ ∃ (R4 C4 : Int) (b4 : Option Addr) (n4 c4 : Nat), Ms wz g9 #[.int .i64 R4, .int .i64 C4, .slice b4 n4 c4] 24 ∧ Arg wz (.slice b4 n4 c4) Z ∧ (E = 0 → R4 = R2 ∧ C4 = C2))
  case first =>
   as_aux_lemma =>
    cases up
    · go_wp2_with fail
      go_meet
      have h := (by first | exact HL2.out rfl | exact HL2.out trivial)
      exact ⟨by rw [h.1], B0, G1, G2, R3, C3, b3, n3, c3, G3, (by first | exact HN1.out rfl | exact HN1.out trivial), h.2⟩
    · have c0 := G1.cell (i := 0) rfl
      have c1 := G1.cell (i := 1) rfl
      have c2 := G1.cell (i := 2) rfl
      have d0 := G2.cell (i := 0) rfl
      have d1 := G2.cell (i := 1) rfl
      have d2 := G2.cell (i := 2) rfl
      go_wp2_with fail
      refine (HU.out _ B0).mono ?_
      rintro e w4 ⟨R4, C4, b4, n4, c4, rfl, hN, h5, -, hb2⟩
      replace B0 := below_both B0 hb2
      replace G1 := G1.behind hb2
      replace G2 := G2.behind hb2
      replace G3 := G3.behind hb2
      have g0 := G3.cell (i := 0) rfl
      have g1 := G3.cell (i := 1) rfl
      have g2 := G3.cell (i := 2) rfl
      have f0 := G3.f 0
      have f1 := G3.f 1
      have f2 := G3.f 2
      rw [← HE.out] at h5
      rw [← HE.out, ← HZ.out] at hN
      have HN4 := Lib.hid hN
      have H5 := Lib.hid h5
      have HB0 := Lib.hid B0
      clear c0 c1 c2 d0 d1 d2 h5 hN B0
      go_wp2_with fail
      go_meet
      exact ⟨by rw [HE.out], HB0.out.put3 (by have := HG9.out; omega) _ _ _, (heap_put3' (by have := HG9.out; omega)).trans G1, (heap_put3' (by have := HG9.out; omega)).trans G2, R4, C4, b4, n4, c4, ms_put3' G3, (HN4.out.put3 HG9.out.2 _ _ _).arg, H5.out⟩
  obtain ⟨rfl, B4, K1, K2, R4, C4, b4, n4, c4, K3, hAZ, h4⟩ := hcut
  have HB4 := Lib.hid B4
  have HK := Lib.hid (And.intro K1 (And.intro K2 K3))
  have HAZ := Lib.hid hAZ
  have HH4 := Lib.hid h4
  have c0 := K1.cell (i := 0) rfl
  have c1 := K1.cell (i := 1) rfl
  have c2 := K1.cell (i := 2) rfl
  clear B0 B4 G1 G2 G3 K1 K2 K3 hAZ h4 HN1 HL2 HL HU
  have HLE : Hid (E ≠ 0 → n4 = 0) := Lib.hid (fun h => by
    obtain ⟨a', c', e⟩ := HAZ.out.slice
    rw [HZN.out h] at e
    simp only [Value.slice.injEq, List.length_nil] at e
    exact e.2.1)
  obtain ⟨f1, hf1⟩ : ∃ f, f = finM R C m xs := ⟨_, rfl⟩
  obtain ⟨f2, hf2⟩ : ∃ f, f = finM R2 C2 n ys := ⟨_, rfl⟩
  have HFF1 := Lib.hid hf1
  have HFF2 := Lib.hid hf2
  rw [← hf1] at HF1
  rw [← hf2] at HF2
  have HRD : Hid (readyE f1 f2 R C R2 unit xs ≠ 0 → E = readyE f1 f2 R C R2 unit xs) := Lib.hid (fun h => by
    rw [HE.out, hf1, hf2]
    rw [hf1, hf2] at h
    exact tellV_no h)
  clear hf1 hf2
  by_cases h1 : f1 = 0
  · subst h1
    by_cases h2 : f2 = 0
    · subst h2
      by_cases h3 : R = C ∧ R2 = R
      · obtain ⟨rfl, rfl⟩ := h3
        obtain ⟨hm1, hu1⟩ := finM_ok HFF1.out.symm
        obtain ⟨hm2, hu2⟩ := finM_ok HFF2.out.symm
        obtain ⟨p1, p2, -, -, p5⟩ := mayM_iff.1 hm1
        obtain ⟨-, -, p3, p4, q5⟩ := mayM_iff.1 hm2
        obtain ⟨r, rfl⟩ := Int.eq_ofNat_of_zero_le (show 0 ≤ R2 by omega)
        obtain ⟨c, rfl⟩ := Int.eq_ofNat_of_zero_le (show 0 ≤ C2 by omega)
        have hmn : m = r * r := by rw [← Int.natCast_mul] at p5; omega
        have hnn : n = r * c := by rw [← Int.natCast_mul] at q5; omega
        have hrr : r * r ≤ 64 * 64 := Nat.mul_le_mul (by omega) (by omega)
        have hrc : r * c ≤ 64 * 64 := Nat.mul_le_mul (by omega) (by omega)
        have hrr0 : 0 < r * r := Nat.mul_pos (by omega) (by omega)
        obtain ⟨S, off, cp, e, HX⟩ := tri_at HA.out (by have := HMN.out.1.1; omega)
        simp only [Value.slice.injEq] at e
        obtain ⟨rfl, -, rfl⟩ := e
        have HD : Hid (∀ k, k < r → ∃ x y P Q : Nat, IntKind.i64.wrap ((k : Int) * (r : Int)) = (Q : Int) ∧ IntKind.i64.wrap ((Q : Int) + (k : Int)) = (P : Int) ∧ P < m ∧ (x : Int) ≤ 18446744073709551615 ∧ IntKind.u64.wrap ((x : Int) * 2) = (y : Int) ∧ (y = 0 ↔ cls x = 0) ∧ (∀ W, Below w.heap.size w W → W.cell? ⟨S, off + P, none⟩ = some (.int .u64 (x : Int))) ∧ diagZ r xs (k + 1) = (diagZ r xs k || decide (cls x = 0))) := Lib.hid (fun k hk => by
          have a1 := Nat.mul_le_mul_right r (show k + 1 ≤ r by omega)
          rw [Nat.add_mul, Nat.one_mul] at a1
          have hlo : lim xs (k * r + k) < 18446744073709551616 := lim_lt_low HLX.out.1 _
          have h1 : IntKind.u64.wrap (((lim xs (k * r + k) : Nat) : Int) * 2) = (((lim xs (k * r + k) * 2) % 18446744073709551616 : Nat) : Int) := by
            show (((lim xs (k * r + k) : Nat) : Int) * 2) % 18446744073709551616 = _
            omega
          have h2 := l22_shl hlo
          rw [h1] at h2
          exact ⟨lim xs (k * r + k), (lim xs (k * r + k) * 2) % 18446744073709551616, k * r + k, k * r, by rw [← Int.natCast_mul]; exact IntWalk.i64_in _ (by omega), by rw [← Int.natCast_add]; exact IntWalk.i64_in _ (by omega), by omega, by omega, h1, by rw [← h2]; omega, fun W h => HX.out W h _ (by have := HMN.out.1.1; omega), rfl⟩)
        have HE7 : Hid (∀ k, k ≤ r → unit = false → diagZ r xs k = true → E = 7 ∧ n4 = 0) := Lib.hid (fun k hk hu h => by
          have hr : readyE 0 0 (r : Int) (r : Int) (r : Int) unit xs = 7 := by
            unfold readyE
            rw [if_neg (by decide), if_neg (by decide), if_neg (by omega), Int.toNat_natCast, if_pos]
            simp only [Bool.and_eq_true]
            exact ⟨by rw [hu]; rfl, diagZ_up h hk⟩
          have hE := HRD.out (by rw [hr]; decide)
          rw [hr] at hE
          exact ⟨hE, HLE.out (by rw [hE]; decide)⟩)
        obtain ⟨X, hX⟩ : ∃ X, X = solX up r c xs unit ys r := ⟨_, rfl⟩
        have HXX : Hid (X.length = n ∧ Low 18446744073709551616 X ∧ solX up r c xs unit ys r = X) := Lib.hid ⟨by rw [hX, solX_length (by have := HMN.out.2.1; omega) r (Nat.le_refl _)]; exact hnn.symm, by rw [hX]; exact solX_low HLX.out.2 r, hX.symm⟩
        have HE0 : Hid ((unit = false → diagZ r xs r = false) → (finB X n = true → E = 0 ∧ Z = X) ∧ (finB X n = false → E = 13 ∧ n4 = 0)) := Lib.hid (fun h => by
          have hr : readyE 0 0 (r : Int) (r : Int) (r : Int) unit xs = 0 := by
            unfold readyE
            rw [if_neg (by decide), if_neg (by decide), if_neg (by omega), Int.toNat_natCast, if_neg]
            cases unit
            · rw [h rfl]; decide
            · simp
          have h1 : E = tellV X 0 := by
            rw [HE.out]
            unfold trE
            rw [← HFF1.out, ← HFF2.out, hr, Int.toNat_natCast, Int.toNat_natCast, hX]
          rw [tellV_yes, HXX.out.1] at h1
          refine ⟨fun g => ?_, fun g => ?_⟩
          · rw [g, if_pos rfl] at h1
            refine ⟨h1, ?_⟩
            rw [HZ.out, if_pos h1, hX]
            unfold trX
            rw [Int.toNat_natCast, Int.toNat_natCast]
          · rw [g, if_neg (by decide)] at h1
            exact ⟨h1, HLE.out (by rw [h1]; decide)⟩)
        have HSL := Lib.hid (fun W (h : Below w.heap.size w W) => l22_solved (up := up) (unit := unit) (HA.out.behind h) (HB.out.behind h) HLX.out.1 HLX.out.2 hm1 hm2)
        rw [HXX.out.2.2] at HSL
        have HM2 := Lib.hid hm2
        have hr64 : (r : Int) ≤ 64 := by omega
        have hc64 : (c : Int) ≤ 64 := by omega
        have r1 : ((r : Int) != (r : Int)) = false := by simp
        clear hm1 hm2 hu1 hu2 p1 p2 p3 p4 p5 q5 hmn hnn hrr hrc hrr0 HX hX
        go_wp2_with fail
        refine (HF1.out _ HB4.out).mono ?_
        rintro e w5 ⟨rfl, b5⟩
        have d0 := (HK.out.2.1.behind b5).cell (i := 0) rfl
        have d1 := (HK.out.2.1.behind b5).cell (i := 1) rfl
        have d2 := (HK.out.2.1.behind b5).cell (i := 2) rfl
        go_wp2_with fail
        refine (HF2.out _ (below_both HB4.out b5)).mono ?_
        rintro e w6 ⟨rfl, b6⟩
        have HB6 := Lib.hid (below_both HB4.out (below_both b5 b6))
        have HK6 := Lib.hid (And.intro ((HK.out.1.behind b5).behind b6) (And.intro ((HK.out.2.1.behind b5).behind b6) ((HK.out.2.2.behind b5).behind b6)))
        have HAZ6 := Lib.hid ((HAZ.out.behind b5).behind b6)
        have k0 := HK6.out.1.cell (i := 0) rfl
        have k1 := HK6.out.1.cell (i := 1) rfl
        have l0 := HK6.out.2.1.cell (i := 0) rfl
        clear b5 b6 c0 c1 c2 d0 d1 d2 HF1 HB4 HK HAZ
        go_wp2
        go_loopw [11] (fun i wr => ∃ k : Nat, k ≤ r ∧ i = .int .i64 k ∧ Hid (unit = false → diagZ r xs k = false) ∧ Below w6.heap.size w6 wr) (fun i _ => r - (intOf i).toNat)
        case atStart => exact ⟨0, Nat.zero_le _, rfl, Lib.hid (fun _ => rfl), Below.refl _ _⟩
        case round =>
          clear k0 k1 l0
          obtain ⟨k, hk, rfl, HZZ, hBr⟩ := hrel
          have k0 := (HK6.out.1.behind hBr).cell (i := 0) rfl
          have k1 := (HK6.out.1.behind hBr).cell (i := 1) rfl
          have k2 := (HK6.out.1.behind hBr).cell (i := 2) rfl
          have hBw := below_both HB6.out hBr
          by_cases hlt : k < r
          · have q : decide ((k : Int) < (r : Int)) = true := decide_eq_true (by omega)
            obtain ⟨x, y, P, Q, e1, e2, e3, e4, e5, e6, e7, e8⟩ := HD.out k hlt
            have kx := e7 _ hBw
            have g2 := (HK6.out.2.2.behind hBr).cell (i := 2) rfl
            cases unit
            · by_cases hc : cls x = 0
              · as_aux_lemma =>
                have h7 := HE7.out (k + 1) (by omega) rfl (by rw [e8, decide_eq_true hc, Bool.or_true])
                have hy : y = 0 := e6.2 hc
                obtain ⟨h8, h9⟩ := h7
                subst hy
                subst h8
                subst h9
                have HX := Lib.hid hBw
                clear e6 e7 e8 hc hBw hBr
                go_wp2
                go_ret
                exact ⟨rfl, HX.out⟩
              · as_aux_lemma =>
                have hy : ¬ y = 0 := fun h => hc (e6.1 h)
                have hz : Hid (false = false → diagZ r xs (k + 1) = false) := Lib.hid (fun _ => by rw [e8, HZZ.out rfl, decide_eq_false hc]; rfl)
                have hy2 : ((y : Int) == 0) = false := by simp; omega
                clear e6 e7 e8 hc
                go_wp2
                exact ⟨⟨k + 1, by omega, by simp, Lib.hid (fun _ => hz.out rfl), hBr⟩, by simp [intOf]; omega⟩
            · as_aux_lemma =>
              clear e6 e7 e8
              go_wp2
              exact ⟨⟨k + 1, by omega, by simp, Lib.hid (fun h => by cases h), hBr⟩, by simp [intOf]; omega⟩
          · obtain rfl : k = r := by omega
            have q : decide ((k : Int) < (k : Int)) = false := decide_eq_false (by omega)
            have hE0 := HE0.out (fun h => HZZ.out (by first | exact h | trivial))
            have l0 := (HK6.out.2.1.behind hBr).cell (i := 0) rfl
            have l1 := (HK6.out.2.1.behind hBr).cell (i := 1) rfl
            have l2 := (HK6.out.2.1.behind hBr).cell (i := 2) rfl
            have HBW := Lib.hid hBw
            have HBR := Lib.hid hBr
            have HEE := Lib.hid hE0
            clear hE0 hBw hBr hlt
            go_wp2_with fail
            refine (HSL.out _ HBW.out).mono ?_
            rintro e w7 ⟨b7, n7, c7, rfl, hN7, hb7⟩
            obtain ⟨k8, L8⟩ := mbox w7 #[.int .i64 (k : Int), .int .i64 (c : Int), .slice b7 n7 c7] 24 _ rfl
            have HN8 := Lib.hid (hN7.arg.behind k8)
            have hn7 : n7 = n := by
              obtain ⟨a', c', e⟩ := hN7.arg.slice
              simp only [Value.slice.injEq] at e
              rw [e.2.1]; exact HXX.out.1
            subst hn7
            have HB8 := Lib.hid (below_both hb7 k8)
            have HF8 := Lib.hid (fun W (h : Below (w7.alloc (.cells #[.int .i64 (k : Int), .int .i64 (c : Int), .slice b7 n7 c7] 24)).heap.size (w7.alloc (.cells #[.int .i64 (k : Int), .int .i64 (c : Int), .slice b7 n7 c7] 24)) W) => shape_finite (R := (k : Int)) (C := (c : Int)) (HN8.out.behind h) HXX.out.2.1)
            have hfx : finM (k : Int) (c : Int) n7 X = if finB X n7 then 0 else 12 := by
              have h := HM2.out
              rw [← HXX.out.1] at h ⊢
              exact finM_may h
            rw [hfx] at HF8
            have m0 := L8.cell (i := 0) rfl
            have m1 := L8.cell (i := 1) rfl
            have m2 := L8.cell (i := 2) rfl
            have HL8 := Lib.hid L8
            clear k0 k1 k2 l0 l1 l2 hb7 k8 hN7 hfx L8
            go_upto_region 18 with (fail)
            obtain ⟨w8, hw8⟩ : ∃ v, v = w7.alloc (.cells #[.int .i64 (k : Int), .int .i64 (c : Int), .slice b7 n7 c7] 24) := ⟨_, rfl⟩
            rw [← hw8] at HN8 HB8 HF8 HL8 m0 m1 m2 ⊢
            have HB9 := Lib.hid (below_both HBR.out HB8.out)
            have HBX := Lib.hid (below_both HB6.out HB9.out)
            clear hw8
            cases hf : finB X n7
            · have h := HEE.out.2 hf
              rw [hf] at HF8
              obtain ⟨h8, h9⟩ := h
              subst h8
              subst h9
              clear hf
              go_wp2_with fail
              refine (HF8.out _ (Below.refl _ _)).mono ?_
              rintro e w9 ⟨rfl, b9⟩
              have g2 := ((HK6.out.2.2.behind HB9.out).behind b9).cell (i := 2) rfl
              have HX := Lib.hid (below_both HBX.out b9)
              clear b9
              go_wp2
              go_ret
              exact ⟨rfl, HX.out⟩
            · have h := HEE.out.1 hf
              rw [hf] at HF8
              have h4 := HH4.out h.1
              have hZX := Lib.hid h.2
              obtain ⟨h8, -⟩ := h
              subst h8
              obtain ⟨rfl, rfl⟩ := h4
              have HAZ9 := Lib.hid ((HAZ6.out.behind HB9.out))
              rw [hZX.out] at HAZ9
              have HSM := Lib.hid (fun W (h : Below w8.heap.size w8 W) => shape_same (R := (k : Int)) (C := (c : Int)) (R' := (k : Int)) (C' := (c : Int)) (HAZ9.out.behind h) (HN8.out.behind h) (by rw [HXX.out.1]; exact HMN.out.2.1 ▸ HMN.out.2.2) (by rw [HXX.out.1]; exact HMN.out.2.1 ▸ HMN.out.2.2))
              have hsm : sameM (k : Int) (c : Int) (k : Int) (c : Int) X X = true := by unfold sameM; simp
              rw [hsm] at HSM
              clear hf hsm hZX
              go_wp2_with fail
              refine (HF8.out _ (Below.refl _ _)).mono ?_
              rintro e w9 ⟨rfl, b9⟩
              have g0 := ((HK6.out.2.2.behind HB9.out).behind b9).cell (i := 0) rfl
              have g1 := ((HK6.out.2.2.behind HB9.out).behind b9).cell (i := 1) rfl
              have g2 := ((HK6.out.2.2.behind HB9.out).behind b9).cell (i := 2) rfl
              have m0 := (HL8.out.behind b9).cell (i := 0) rfl
              have m1 := (HL8.out.behind b9).cell (i := 1) rfl
              have m2 := (HL8.out.behind b9).cell (i := 2) rfl
              go_wp2_with fail
              refine (HSM.out _ b9).mono ?_
              rintro e w10 ⟨rfl, b10⟩
              have HX := Lib.hid (below_both HBX.out (below_both b9 b10))
              clear b9 b10
              go_wp2
              go_ret
              exact ⟨rfl, HX.out⟩
      · as_aux_lemma =>
        have hr : readyE 0 0 R C R2 unit xs = 11 := by unfold readyE; rw [if_neg (by decide), if_neg (by decide), if_pos (by omega)]
        have hE := HRD.out (by rw [hr]; decide)
        rw [hr] at hE
        have hn := HLE.out (by rw [hE]; decide)
        subst hE
        subst hn
        by_cases h4 : R = C
        · subst h4
          have h5 : (R2 != R) = true := bne_iff_ne.2 (fun h => h3 ⟨rfl, h⟩)
          have h6 : (R != R) = false := by simp
          clear hr h3
          go_wp2_with fail
          refine (HF1.out _ HB4.out).mono ?_
          rintro e w5 ⟨rfl, b5⟩
          have d0 := (HK.out.2.1.behind b5).cell (i := 0) rfl
          have d1 := (HK.out.2.1.behind b5).cell (i := 1) rfl
          have d2 := (HK.out.2.1.behind b5).cell (i := 2) rfl
          go_wp2_with fail
          refine (HF2.out _ (below_both HB4.out b5)).mono ?_
          rintro e w6 ⟨rfl, b6⟩
          have g2 := ((HK.out.2.2.behind b5).behind b6).cell (i := 2) rfl
          have k0 := ((HK.out.1.behind b5).behind b6).cell (i := 0) rfl
          have k1 := ((HK.out.1.behind b5).behind b6).cell (i := 1) rfl
          have l0 := ((HK.out.2.1.behind b5).behind b6).cell (i := 0) rfl
          have HX := Lib.hid (below_both HB4.out (below_both b5 b6))
          clear b5 b6
          go_wp2
          go_ret
          exact ⟨rfl, HX.out⟩
        · have h6 : (R != C) = true := bne_iff_ne.2 h4
          clear hr h3 h4
          go_wp2_with fail
          refine (HF1.out _ HB4.out).mono ?_
          rintro e w5 ⟨rfl, b5⟩
          have d0 := (HK.out.2.1.behind b5).cell (i := 0) rfl
          have d1 := (HK.out.2.1.behind b5).cell (i := 1) rfl
          have d2 := (HK.out.2.1.behind b5).cell (i := 2) rfl
          go_wp2_with fail
          refine (HF2.out _ (below_both HB4.out b5)).mono ?_
          rintro e w6 ⟨rfl, b6⟩
          have g2 := ((HK.out.2.2.behind b5).behind b6).cell (i := 2) rfl
          have k0 := ((HK.out.1.behind b5).behind b6).cell (i := 0) rfl
          have k1 := ((HK.out.1.behind b5).behind b6).cell (i := 1) rfl
          have HX := Lib.hid (below_both HB4.out (below_both b5 b6))
          clear b5 b6
          go_wp2
          go_ret
          exact ⟨rfl, HX.out⟩
    · as_aux_lemma =>
      have hr : readyE 0 f2 R C R2 unit xs = f2 := by unfold readyE; rw [if_neg (by decide), if_pos h2]
      have hE := HRD.out (by rw [hr]; exact h2)
      rw [hr] at hE
      have hn := HLE.out (by rw [hE]; exact h2)
      subst hE
      subst hn
      have q1 : (E != 0) = true := bne_iff_ne.2 h2
      clear hr h2
      go_wp2_with fail
      refine (HF1.out _ HB4.out).mono ?_
      rintro e w5 ⟨rfl, b5⟩
      have d0 := (HK.out.2.1.behind b5).cell (i := 0) rfl
      have d1 := (HK.out.2.1.behind b5).cell (i := 1) rfl
      have d2 := (HK.out.2.1.behind b5).cell (i := 2) rfl
      go_wp2_with fail
      refine (HF2.out _ (below_both HB4.out b5)).mono ?_
      rintro e w6 ⟨rfl, b6⟩
      have d0 := ((HK.out.2.1.behind b5).behind b6).cell (i := 0) rfl
      have d1 := ((HK.out.2.1.behind b5).behind b6).cell (i := 1) rfl
      have d2 := ((HK.out.2.1.behind b5).behind b6).cell (i := 2) rfl
      go_wp2_with fail
      refine (HF2.out _ (below_both HB4.out (below_both b5 b6))).mono ?_
      rintro e w7 ⟨rfl, b7⟩
      have g2 := (((HK.out.2.2.behind b5).behind b6).behind b7).cell (i := 2) rfl
      have HX := Lib.hid (below_both HB4.out (below_both b5 (below_both b6 b7)))
      clear b5 b6 b7
      go_wp2
      go_ret
      exact ⟨rfl, HX.out⟩
  · as_aux_lemma =>
    have hr : readyE f1 f2 R C R2 unit xs = f1 := by unfold readyE; rw [if_pos h1]
    have hE := HRD.out (by rw [hr]; exact h1)
    rw [hr] at hE
    have hn := HLE.out (by rw [hE]; exact h1)
    subst hE
    subst hn
    have q1 : (E != 0) = true := bne_iff_ne.2 h1
    clear hr h1
    go_wp2_with fail
    refine (HF1.out _ HB4.out).mono ?_
    rintro e w5 ⟨rfl, b5⟩
    have c0 := (HK.out.1.behind b5).cell (i := 0) rfl
    have c1 := (HK.out.1.behind b5).cell (i := 1) rfl
    have c2 := (HK.out.1.behind b5).cell (i := 2) rfl
    go_wp2_with fail
    refine (HF1.out _ (below_both HB4.out b5)).mono ?_
    rintro e w6 ⟨rfl, b6⟩
    have g2 := ((HK.out.2.2.behind b5).behind b6).cell (i := 2) rfl
    have HX := Lib.hid (below_both HB4.out (below_both b5 b6))
    clear b5 b6
    go_wp2
    go_ret
    exact ⟨rfl, HX.out⟩
end Go.Proofs.Ytdonecohnemomaa
