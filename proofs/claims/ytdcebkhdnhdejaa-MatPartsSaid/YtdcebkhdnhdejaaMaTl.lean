/- vernierlaw20: alive, first, when, told. -/
import Derived.Test.YtdcebkhdnhdejaaMaPair
import Derived.Test.YtdcebkhdnhdejaaShCalls
import Derived.Deep.AppendLies
namespace Go.Proofs.Ytdcebkhdnhdejaa
open Go.RowKit Go.Shelf
theorem l20_when {b : Bool} {e0 : Int} {w : World} : Calls Try.prog 26 #[.bool b, .int .i64 e0] w fun e W' => e = .returned (.int .i64 (if b then e0 else 0)) ∧ w = W' := by
  cases b
  all_goals
    go_enter Try.func26, Try.ntmps26
    go_wp2
    go_ret
    exact ⟨rfl, rfl⟩
theorem l20_first3 {v : Value} {e f g : Int} {w : World} (hA : ArgK .i64 w v [e, f, g]) : Calls Try.prog 23 #[v] w fun o W' => o = .returned (.int .i64 (firstE e f g)) ∧ Below w.heap.size w W' := by
  obtain ⟨S, a, cap, hS, rfl, hcap, HA⟩ := hA.opened
  have HW := Lib.hid (firstE_ways e f g)
  obtain ⟨E, hE⟩ : ∃ E, E = firstE e f g := ⟨_, rfl⟩
  have HE := Lib.hid hE
  rw [← hE]
  clear hE
  have H0 : Hid (zat [e, f, g] 0 = e ∧ zat [e, f, g] 1 = f ∧ zat [e, f, g] 2 = g) := Lib.hid ⟨rfl, rfl, rfl⟩
  generalize hzs : [e, f, g] = zs at *
  have hl : zs.length = 3 := by rw [← hzs]; rfl
  rw [hl] at HA hcap ⊢
  clear hzs hl hcap hA
  go_enter Try.func23, Try.ntmps23
  go_wp2
  go_loopw [3] (fun i wr => ∃ k : Nat, ∃ z : Int, k ≤ 3 ∧ z = k ∧ i = .int .i64 z ∧ Hid (1 ≤ k → e = 0) ∧ Hid (2 ≤ k → f = 0) ∧ Hid (3 ≤ k → g = 0) ∧ Below w.heap.size w wr) (fun i _ => 3 - (intOf i).toNat)
  case atStart => exact ⟨0, 0, by omega, rfl, rfl, Lib.hid (fun h => absurd h (by decide)), Lib.hid (fun h => absurd h (by decide)), Lib.hid (fun h => absurd h (by decide)), Below.refl _ _⟩
  case round =>
    obtain ⟨k, z, hk, hz, rfl, H1, H2, H3, hB⟩ := hrel
    rcases (show k = 0 ∨ k = 1 ∨ k = 2 ∨ k = 3 by omega) with rfl | rfl | rfl | rfl
    · obtain rfl : z = 0 := hz
      obtain ⟨o, rfl, k0⟩ := HA.out wr hB 0 (by omega)
      rw [Nat.add_zero] at k0
      rw [H0.out.1] at k0
      by_cases h : e = 0
      · have HH := Lib.hid h
        have d : (e != 0) = false := by simp [h]
        clear h
        go_wp2
        go_roundw
        case rel => exact ⟨1, 1, by omega, rfl, rfl, Lib.hid (fun _ => HH.out), Lib.hid (fun h => absurd h (by decide)), Lib.hid (fun h => absurd h (by decide)), hB⟩
        case measure => simp [intOf]
      · have d : (e != 0) = true := bne_iff_ne.2 h
        have HR : Hid (E = e) := Lib.hid (by
          rw [HE.out]; rcases HW.out with ⟨_, q⟩ | ⟨q, _⟩ | ⟨q, _⟩
          · exact q
          · exact absurd q h
          · exact absurd q h)
        clear h
        go_wp2
        go_ret
        exact ⟨by rw [HR.out]; rfl, hB⟩
    · obtain rfl : z = 1 := hz
      obtain ⟨o, rfl, k0⟩ := HA.out wr hB 1 (by omega)
      rw [H0.out.2.1] at k0
      by_cases h : f = 0
      · have HH := Lib.hid h
        have HE1 := Lib.hid (H1.out (by omega))
        have d : (f != 0) = false := by simp [h]
        clear h
        go_wp2
        go_roundw
        case rel => exact ⟨2, 2, by omega, rfl, rfl, Lib.hid (fun _ => HE1.out), Lib.hid (fun _ => HH.out), Lib.hid (fun h => absurd h (by decide)), hB⟩
        case measure => simp [intOf]
      · have d : (f != 0) = true := bne_iff_ne.2 h
        have HR : Hid (E = f) := Lib.hid (by
          rw [HE.out]; rcases HW.out with ⟨q, _⟩ | ⟨_, _, q⟩ | ⟨_, q, _⟩
          · exact absurd (H1.out (by omega)) q
          · exact q
          · exact absurd q h)
        clear h
        go_wp2
        go_ret
        exact ⟨by rw [HR.out]; rfl, hB⟩
    · obtain rfl : z = 2 := hz
      obtain ⟨o, rfl, k0⟩ := HA.out wr hB 2 (by omega)
      rw [H0.out.2.2] at k0
      have HR : Hid (E = g) := Lib.hid (by
        rw [HE.out]; rcases HW.out with ⟨q, _⟩ | ⟨_, q, _⟩ | ⟨_, _, q⟩
        · exact absurd (H1.out (by omega)) q
        · exact absurd (H2.out (by omega)) q
        · exact q)
      by_cases h : g = 0
      · have HH := Lib.hid h
        have HE1 := Lib.hid (H1.out (by omega))
        have HE2 := Lib.hid (H2.out (by omega))
        have d : (g != 0) = false := by simp [h]
        clear h
        go_wp2
        go_roundw
        case rel => exact ⟨3, 3, by omega, rfl, rfl, Lib.hid (fun _ => HE1.out), Lib.hid (fun _ => HE2.out), Lib.hid (fun _ => HH.out), hB⟩
        case measure => simp [intOf]
      · have d : (g != 0) = true := bne_iff_ne.2 h
        clear h
        go_wp2
        go_ret
        exact ⟨by rw [HR.out]; rfl, hB⟩
    · obtain rfl : z = 3 := hz
      have HR : Hid (E = 0) := Lib.hid (by
        rw [HE.out]; rcases HW.out with ⟨q, _⟩ | ⟨_, q, _⟩ | ⟨_, _, q⟩
        · exact absurd (H1.out (by omega)) q
        · exact absurd (H2.out (by omega)) q
        · rw [q]; exact H3.out (by omega))
      go_wp2
      go_ret
      exact ⟨by rw [HR.out]; rfl, hB⟩
theorem l20_first2 {v : Value} {e f : Int} {w : World} (hA : ArgK .i64 w v [e, f]) : Calls Try.prog 23 #[v] w fun o W' => o = .returned (.int .i64 (firstE e f 0)) ∧ Below w.heap.size w W' := by
  obtain ⟨S, a, cap, hS, rfl, hcap, HA⟩ := hA.opened
  have HW := Lib.hid (firstE_ways e f 0)
  obtain ⟨E, hE⟩ : ∃ E, E = firstE e f 0 := ⟨_, rfl⟩
  have HE := Lib.hid hE
  rw [← hE]
  clear hE
  have H0 : Hid (zat [e, f] 0 = e ∧ zat [e, f] 1 = f) := Lib.hid ⟨rfl, rfl⟩
  generalize hzs : [e, f] = zs at *
  have hl : zs.length = 2 := by rw [← hzs]; rfl
  rw [hl] at HA hcap ⊢
  clear hzs hl hcap hA
  go_enter Try.func23, Try.ntmps23
  go_wp2
  go_loopw [3] (fun i wr => ∃ k : Nat, ∃ z : Int, k ≤ 2 ∧ z = k ∧ i = .int .i64 z ∧ Hid (1 ≤ k → e = 0) ∧ Hid (2 ≤ k → f = 0) ∧ Below w.heap.size w wr) (fun i _ => 2 - (intOf i).toNat)
  case atStart => exact ⟨0, 0, by omega, rfl, rfl, Lib.hid (fun h => absurd h (by decide)), Lib.hid (fun h => absurd h (by decide)), Below.refl _ _⟩
  case round =>
    obtain ⟨k, z, hk, hz, rfl, H1, H2, hB⟩ := hrel
    rcases (show k = 0 ∨ k = 1 ∨ k = 2 by omega) with rfl | rfl | rfl
    · obtain rfl : z = 0 := hz
      obtain ⟨o, rfl, k0⟩ := HA.out wr hB 0 (by omega)
      rw [Nat.add_zero] at k0
      rw [H0.out.1] at k0
      by_cases h : e = 0
      · have HH := Lib.hid h
        have d : (e != 0) = false := by simp [h]
        clear h
        go_wp2
        go_roundw
        case rel => exact ⟨1, 1, by omega, rfl, rfl, Lib.hid (fun _ => HH.out), Lib.hid (fun h => absurd h (by decide)), hB⟩
        case measure => simp [intOf]
      · have d : (e != 0) = true := bne_iff_ne.2 h
        have HR : Hid (E = e) := Lib.hid (by
          rw [HE.out]; rcases HW.out with ⟨_, q⟩ | ⟨q, _⟩ | ⟨q, _⟩
          · exact q
          · exact absurd q h
          · exact absurd q h)
        clear h
        go_wp2
        go_ret
        exact ⟨by rw [HR.out]; rfl, hB⟩
    · obtain rfl : z = 1 := hz
      obtain ⟨o, rfl, k0⟩ := HA.out wr hB 1 (by omega)
      rw [H0.out.2] at k0
      by_cases h : f = 0
      · have HH := Lib.hid h
        have HE1 := Lib.hid (H1.out (by omega))
        have d : (f != 0) = false := by simp [h]
        clear h
        go_wp2
        go_roundw
        case rel => exact ⟨2, 2, by omega, rfl, rfl, Lib.hid (fun _ => HE1.out), Lib.hid (fun _ => HH.out), hB⟩
        case measure => simp [intOf]
      · have d : (f != 0) = true := bne_iff_ne.2 h
        have HR : Hid (E = f) := Lib.hid (by
          rw [HE.out]; rcases HW.out with ⟨q, _⟩ | ⟨_, _, q⟩ | ⟨_, q, _⟩
          · exact absurd (H1.out (by omega)) q
          · exact q
          · exact absurd q h)
        clear h
        go_wp2
        go_ret
        exact ⟨by rw [HR.out]; rfl, hB⟩
    · obtain rfl : z = 2 := hz
      have HR : Hid (E = 0) := Lib.hid (by
        rw [HE.out]; rcases HW.out with ⟨q, _⟩ | ⟨_, q, _⟩ | ⟨_, _, q⟩
        · exact absurd (H1.out (by omega)) q
        · exact absurd (H2.out (by omega)) q
        · exact q)
      go_wp2
      go_ret
      exact ⟨by rw [HR.out]; rfl, hB⟩
theorem argK_lit {k : IntKind} {W : World} {t : TypeId} (zs : List Int) (cs : Array Value) (h : cs.toList = valsK k zs) : ArgK k (W.alloc (.cells cs t)) (.slice (some ⟨W.heap.size, 0, none⟩) zs.length zs.length) zs := by
  refine ⟨W.heap.size, by rw [World.size_alloc]; omega, .inr ⟨0, _, rfl, Nat.le_refl _, fun j hj => ?_⟩⟩
  rw [Nat.zero_add, World.cell?_alloc_new]
  have := valsK_get (k := k) hj
  rw [← h] at this
  simpa using this
theorem l20_first3_at {e f g : Int} {t : TypeId} {W : World} : Calls Try.prog 23 #[.slice (some ⟨W.heap.size, 0, none⟩) 3 3] (W.alloc (.cells #[.int .i64 e, .int .i64 f, .int .i64 g] t)) fun o W' => o = .returned (.int .i64 (firstE e f g)) ∧ Below W.heap.size W W' :=
  (l20_first3 (argK_lit (k := .i64) (W := W) (t := t) [e, f, g] #[.int .i64 e, .int .i64 f, .int .i64 g] rfl)).mono fun _ _ ⟨h1, h2⟩ => ⟨h1, below_both (bel_new W _) h2⟩
theorem l20_first2_at {e f : Int} {t : TypeId} {W : World} : Calls Try.prog 23 #[.slice (some ⟨W.heap.size, 0, none⟩) 2 2] (W.alloc (.cells #[.int .i64 e, .int .i64 f] t)) fun o W' => o = .returned (.int .i64 (firstE e f 0)) ∧ Below W.heap.size W W' :=
  (l20_first2 (argK_lit (k := .i64) (W := W) (t := t) [e, f] #[.int .i64 e, .int .i64 f] rfl)).mono fun _ _ ⟨h1, h2⟩ => ⟨h1, below_both (bel_new W _) h2⟩
/-- what told says of a told matrix and of the one that is wanted -/
theorem l20_told {R C R2 C2 : Int} {a b : Option Addr} {n m cap cap' : Nat} {ws : List Nat} {f : Int} {w : World} (hX : Arg w (.slice a n cap) (if tellV ws f = 0 then ws else [])) (hY : Arg w (.slice b m cap') ws) (hl : Low 18446744073709551616 ws) (hn : ws.length ≤ 17592186044416) (hm : f = 0 → mayM R C ws.length = true) (hR : tellV ws f = 0 → R2 = R ∧ C2 = C) :
    Calls Try.prog 32 #[.agg #[.int .i64 R2, .int .i64 C2, .slice a n cap], .int .i64 (tellV ws f), .agg #[.int .i64 R, .int .i64 C, .slice b m cap'], .int .i64 f] w fun e W' => e = .returned (.bool true) ∧ Below w.heap.size w W' := by
  obtain ⟨B, G1, G2, hsz⟩ := vboxm w #[.int .i64 R2, .int .i64 C2, .slice a n cap] #[.int .i64 R, .int .i64 C, .slice b m cap'] 24 24 _ rfl
  have hmw : m = ws.length := by
    obtain ⟨a', c', e⟩ := hY.slice
    simp only [Value.slice.injEq] at e
    omega
  have hF := fun (W : World) (h : Below w.heap.size w W) => shape_finite (R := R) (C := C) (hY.behind h) hl
  have hS := fun (W : World) (h : Below w.heap.size w W) (h2 : tellV ws f = 0) => shape_same (R := R2) (C := C2) (R' := R) (C' := C) (hX.behind h) (hY.behind h) (by rw [if_pos h2]; exact hn) hn
  have c0 := G1.cell (i := 0) rfl
  have c1 := G1.cell (i := 1) rfl
  have c2 := G1.cell (i := 2) rfl
  have d0 := G2.cell (i := 0) rfl
  have d1 := G2.cell (i := 1) rfl
  have d2 := G2.cell (i := 2) rfl
  rcases tellV_ways ws f with ⟨h1, h2⟩ | ⟨h1, h2, h3⟩ | ⟨h1, h2, h3⟩
  · rw [h2] at hX hR ⊢
    rw [if_neg h1] at hX
    obtain ⟨a', c', e⟩ := hX.slice
    simp only [Value.slice.injEq, List.length_nil] at e
    obtain ⟨-, rfl, -⟩ := e
    have q1 : (f == 0) = false := beq_eq_false_iff_ne.2 h1
    have q2 : (f != 0) = true := bne_iff_ne.2 h1
    have q3 : (f == f) = true := by simp
    clear h1 h2 hX hY hF hS hR hm hmw hl hn
    go_enter Try.func32, Try.ntmps32
    go_wp2
    go_ret
    exact ⟨rfl, B⟩
  · subst h1
    obtain ⟨rfl, rfl⟩ := hR h3
    rw [hmw, finM_may (hm rfl), h2, if_pos rfl, ← hmw] at hF
    have HF := Lib.hid hF
    have HS := Lib.hid (fun W h => hS W h h3)
    rw [h3] at HS ⊢
    have hsm : sameM R2 C2 R2 C2 (if (0 : Int) = 0 then ws else []) ws = true := by
      rw [if_pos rfl]; unfold sameM; simp
    rw [hsm] at HS
    clear h2 hX hY hF hS hR hm hmw hl hn h3 hsm
    go_enter Try.func32, Try.ntmps32
    go_wp2_with fail
    refine (HF.out _ B).mono ?_
    rintro e w1 ⟨rfl, b1⟩
    replace B := below_both B b1
    replace G1 := G1.behind b1
    replace G2 := G2.behind b1
    have c0 := G1.cell (i := 0) rfl
    have c1 := G1.cell (i := 1) rfl
    have c2 := G1.cell (i := 2) rfl
    have d0 := G2.cell (i := 0) rfl
    have d1 := G2.cell (i := 1) rfl
    have d2 := G2.cell (i := 2) rfl
    go_wp2_with fail
    refine (HS.out _ B).mono ?_
    rintro e w2 ⟨rfl, b2⟩
    go_wp2
    go_ret
    exact ⟨rfl, below_both B b2⟩
  · subst h1
    rw [hmw, finM_may (hm rfl), h2, if_neg (by decide), ← hmw] at hF
    rw [h3] at hX ⊢
    rw [if_neg (by decide)] at hX
    obtain ⟨a', c', e⟩ := hX.slice
    simp only [Value.slice.injEq, List.length_nil] at e
    obtain ⟨-, rfl, -⟩ := e
    have HF := Lib.hid hF
    clear h2 hX hY hF hS hR hm hmw hl hn h3
    go_enter Try.func32, Try.ntmps32
    go_wp2_with fail
    refine (HF.out _ B).mono ?_
    rintro e w1 ⟨rfl, b1⟩
    replace B := below_both B b1
    replace G1 := G1.behind b1
    have c0 := G1.cell (i := 0) rfl
    have c1 := G1.cell (i := 1) rfl
    have c2 := G1.cell (i := 2) rfl
    go_wp2
    go_ret
    exact ⟨rfl, B⟩
theorem l20_adds : tellV (pairV plusU [4607182418800017408] [4607182418800017408]) (pairF 1 1 1 [4607182418800017408] 1 1 1 [4607182418800017408]) = 0 ∧ pairV plusU [4607182418800017408] [4607182418800017408] = [4611686018427387904] := by
  have h : plusU 4607182418800017408 4607182418800017408 = 4611686018427387904 := by unfold plusU; rw [radd_one20]
  have e : pairV plusU [4607182418800017408] [4607182418800017408] = [4611686018427387904] := by
    show [plusU 4607182418800017408 4607182418800017408] = _
    rw [h]
  rw [e]
  exact ⟨by decide, rfl⟩
where
  radd_one20 : radd 4607182418800017408 4607182418800017408 0 = (4611686018427387904, 0) := by decide
end Go.Proofs.Ytdcebkhdnhdejaa

/- vernierlaw20: alive. -/
namespace Go.Proofs.Ytdcebkhdnhdejaa
open Go.RowKit Go.Shelf
theorem l20_subs : tellV (pairV minusU [4607182418800017408] [4607182418800017408]) (pairF 1 1 1 [4607182418800017408] 1 1 1 [4607182418800017408]) = 0 ∧ pairV minusU [4607182418800017408] [4607182418800017408] = [0] := by
  have h : minusU 4607182418800017408 4607182418800017408 = 0 := by decide
  have e : pairV minusU [4607182418800017408] [4607182418800017408] = [0] := by
    show [minusU 4607182418800017408 4607182418800017408] = _
    rw [h]
  rw [e]
  exact ⟨by decide, rfl⟩
theorem low_word {x : Nat} (h : x < 18446744073709551616) : Low 18446744073709551616 [x] := by
  intro y hy
  simp only [List.mem_cons, List.not_mem_nil, or_false] at hy
  exact hy ▸ h
/-- a told list of one word, opened -/
theorem Arg.one {w : World} {b : Option Addr} {n c x : Nat} (h : Arg w (.slice b n c) [x]) : ∃ S o, b = some ⟨S, o, none⟩ ∧ n = 1 ∧ S < w.heap.size ∧ Hid (∀ W, Below w.heap.size w W → W.cell? ⟨S, o, none⟩ = some (.int .u64 (x : Int))) := by
  obtain ⟨S, a, cap, hS, e, _, HA⟩ := h.opened
  simp only [Value.slice.injEq] at e
  obtain ⟨rfl, rfl, rfl⟩ := e
  obtain ⟨o, rfl, _⟩ := HA.out w (Below.refl _ _) 0 (by simp)
  refine ⟨S, o, rfl, rfl, hS, Lib.hid fun W hW => ?_⟩
  obtain ⟨o2, e2, h2⟩ := HA.out W hW 0 (by simp)
  simp only [Option.some.injEq, Addr.mk.injEq, true_and, and_true] at e2
  subst e2
  rwa [Nat.add_zero] at h2
set_option maxRecDepth 100000 in
set_option maxHeartbeats 8000000 in
theorem l20_alive (w : World) : Calls Try.prog 22 #[] w fun e W' => e = .returned (.bool true) ∧ Below w.heap.size w W' := by
  have b1 := bel_new w (.cells #[.int .u64 4607182418800017408] 32)
  have af : Arg (w.alloc (.cells #[.int .u64 4607182418800017408] 32)) (.slice (some ⟨w.heap.size, 0, none⟩) 1 1) [4607182418800017408] := by
    refine ⟨w.heap.size, by rw [World.size_alloc]; omega, .inr ⟨0, 1, rfl, Nat.le_refl _, fun j hj => ?_⟩⟩
    have : j = 0 := by simp at hj; omega
    subst this
    rw [World.cell?_alloc_new]; rfl
  obtain ⟨b2, G⟩ := mbox (w.alloc (.cells #[.int .u64 4607182418800017408] 32)) #[.int .i64 1, .int .i64 1, .slice (some ⟨w.heap.size, 0, none⟩) 1 1] 24 _ rfl
  have hs := fun (W : World) (h : Arg W (.slice (some ⟨w.heap.size, 0, none⟩) 1 1) [4607182418800017408]) => mat_sub (R := 1) (C := 1) (R' := 1) (C' := 1) h h (low_word (by decide)) (low_word (by decide))
  have ha := fun (W : World) (h : Arg W (.slice (some ⟨w.heap.size, 0, none⟩) 1 1) [4607182418800017408]) => mat_add (R := 1) (C := 1) (R' := 1) (C' := 1) h h (low_word (by decide)) (low_word (by decide))
  rw [l20_subs.1, l20_subs.2] at hs
  rw [l20_adds.1, l20_adds.2] at ha
  have HS := Lib.hid hs
  have HA := Lib.hid ha
  clear hs ha
  replace af := af.behind b2
  have B := below_both b1 b2
  have c0 := G.cell (i := 0) rfl
  have c1 := G.cell (i := 1) rfl
  have c2 := G.cell (i := 2) rfl
  simp only [World.size_alloc] at c0 c1 c2 G
  clear b1 b2
  go_enter Try.func22, Try.ntmps22
  go_wp2_with fail
  generalize (w.alloc (.cells #[.int .u64 4607182418800017408] 32)).alloc (.cells #[.int .i64 1, .int .i64 1, .slice (some ⟨w.heap.size, 0, none⟩) 1 1] 24) = W0 at *
  refine (HS.out _ af).mono ?_
  rintro e w3 ⟨R2, C2, b, n, c, rfl, hN, hR, b3⟩
  have haN : Arg w3 (.slice b n c) [0] := hN.arg
  obtain ⟨S, o, rfl, rfl, hS, HC⟩ := haN.one
  clear hN hR haN
  obtain ⟨b4, G4⟩ := mbox w3 #[.int .i64 R2, .int .i64 C2, .slice (some ⟨S, o, none⟩) 1 c] 24 _ rfl
  have B4 := below_both b3 b4
  have c0 := (G.behind B4).cell (i := 0) rfl
  have c1 := (G.behind B4).cell (i := 1) rfl
  have c2 := (G.behind B4).cell (i := 2) rfl
  have af4 := af.behind B4
  go_wp2_with fail
  generalize w3.alloc (.cells #[.int .i64 R2, .int .i64 C2, .slice (some ⟨S, o, none⟩) 1 c] 24) = w4 at *
  refine (HA.out _ af4).mono ?_
  rintro e w5 ⟨R3, C3, b, n, c', rfl, hN, hR, b5⟩
  have haN : Arg w5 (.slice b n c') [4611686018427387904] := hN.arg
  obtain ⟨T, q, rfl, rfl, hT, HT⟩ := haN.one
  clear hN hR haN
  obtain ⟨b6, G6⟩ := mbox w5 #[.int .i64 R3, .int .i64 C3, .slice (some ⟨T, q, none⟩) 1 c'] 24 _ rfl
  have B6 := below_both b5 b6
  have e2 := (G4.behind B6).cell (i := 2) rfl
  have f2 := G6.cell (i := 2) rfl
  have k1 := HC.out _ (below_both b4 B6)
  have k2 := HT.out _ b6
  have HB := Lib.hid (below_both B (below_both B4 B6))
  go_wp2
  go_ret
  exact ⟨rfl, HB.out⟩
end Go.Proofs.Ytdcebkhdnhdejaa

/- Two lists that the call itself makes, apart from each other, appended to one behind the other. -/
namespace Go.Proofs.Ytdcebkhdnhdejaa
open Go.RowKit Go.Shelf
theorem OwnK.grew {k : IntKind} {t : TypeId} {b : Nat} {W W' : World} {v : Value} {zs : List Int} {row : Option Nat} (h : OwnK k t b W v zs) (hg : W.grownBy W' row) (hne : ∀ q, v.ownBlock = some q → row ≠ some q) : OwnK k t b W' v zs := by
  unfold OwnK World.ownsRow at h ⊢
  refine ⟨h.1, h.2.imp id ?_⟩
  rintro ⟨g, cap, cur, rfl, h2, h3, h4⟩
  exact ⟨g, cap, cur, rfl, h2, (hg.block g (Array.getElem?_eq_some_iff.1 h3).1 (fun e => hne g rfl e.symm)).trans h3, h4⟩
/-- append(xs, x), with the block told -/
theorem list_app {ops : Array Oper} {rest : List Oper} {o : Oper} {a : Act} {Q : Exit → Act → World → Prop} {W : World} (hgd : o.guard = none) (s x : Operand)
    (ho : o.op = .call { callee := .builtin .append, args := #[s, x], argTypes := #[22, 22] }) {b : Nat} {v : Value} {xs : List Nat} {z : Nat} {g : Nat} (hs : a.eval s = v) (hx : a.eval x = .slice (some ⟨g, 0, none⟩) 1 1)
    (hc : W.cell? ⟨g, 0, none⟩ = some (.int .u64 (z : Int))) (hown : OwnK .u64 32 b W v (zn xs)) (hlen : xs.length + 1 ≤ 17592186044416) (hb : b ≤ W.heap.size)
    (h : ∀ g' cap w', OwnK .u64 32 b w' (.slice (some ⟨g', 0, none⟩) (xs.length + 1) cap) (zn (xs ++ [z])) → W.grownBy w' v.ownBlock → (v.ownBlock = some g' ∨ g' = W.heap.size) → g' < w'.heap.size → wpList Try.prog ops Q rest (a.put o.dst (.slice (some ⟨g', 0, none⟩) (xs.length + 1) cap)) w') :
    wpList Try.prog ops Q (o :: rest) a W := by
  obtain ⟨i0, hi, hz0, hz1, hz2⟩ := info_parts info_u64
  have hl := valsK_length .u64 (zn xs)
  have hl2 := zn_length xs
  have hown2 : W.ownsRow b 32 1 v xs.length (valsK .u64 (zn xs)) := by
    have h1 := hown
    unfold OwnK at h1
    rwa [hl2] at h1
  refine wpList_append_lies W hgd s x 22 ho b 32 i0 (.int .u64 0) 1 8 Try.underlying22 hi hz0 hz1 hz2 rfl (by decide) v xs.length (valsK .u64 (zn xs)) hs hown2 ⟨g, 0, none⟩ 1 1 [.int .u64 (z : Int)] hx rfl ?_ ?_ (by decide) (by simp only [maxLen]; omega) (by omega) hb _ rfl ?_
  · intro j u hu
    rcases j with _ | j
    · simp only [List.getElem?_cons_zero, Option.some.injEq] at hu
      subst hu
      exact hc
    · simp at hu
  · intro u hu
    simp only [List.mem_cons, List.not_mem_nil, or_false] at hu
    subst hu; rfl
  · intro g' cap w' h1 h2 h3 h4
    refine h g' cap w' ?_ h2 h3 h4
    unfold OwnK
    rw [zn_length, List.length_append, List.length_cons, List.length_nil, zn_snoc, ← valsK_snoc]
    exact h1
/-- two lists of the call's own -/
def Duo (w W : World) (p r : Value) (P R : List Nat) : Prop :=
  Below w.heap.size w W ∧ OwnK .u64 32 w.heap.size W p (zn P) ∧ OwnK .u64 32 w.heap.size W r (zn R) ∧ ∀ g, p.ownBlock = some g → r.ownBlock ≠ some g
section
variable {w W W' : World} {p r : Value} {P R : List Nat}
theorem Duo.bel (h : Duo w W p r P R) : Below w.heap.size w W := h.1
theorem Duo.below (h : Duo w W p r P R) (hb : Below W.heap.size W W') : Duo w W' p r P R :=
  ⟨below_both h.1 hb, h.2.1.below hb, h.2.2.1.below hb, h.2.2.2⟩
theorem Duo.drew (h : Duo w W p r P R) : Duo w W.drew p r P R := ⟨h.1.drew, h.2.1.drew, h.2.2.1.drew, h.2.2.2⟩
theorem Duo.alloc (h : Duo w W p r P R) (o : Obj) : Duo w (W.alloc o) p r P R := h.below (bel_new W o)
theorem Duo.flip (h : Duo w W p r P R) : Duo w W r p R P := ⟨h.1, h.2.2.1, h.2.1, fun g h1 h2 => h.2.2.2 g h2 h1⟩
theorem Duo.nil (w : World) : Duo w w (.slice none 0 0) (.slice none 0 0) [] [] := ⟨Below.refl _ _, OwnK.nil _ _ _ _, OwnK.nil _ _ _ _, by intro g h; cases h⟩
theorem list_duo {ops : Array Oper} {rest : List Oper} {o : Oper} {a : Act} {Q : Exit → Act → World → Prop} (hgd : o.guard = none) (s x : Operand)
    (ho : o.op = .call { callee := .builtin .append, args := #[s, x], argTypes := #[22, 22] }) {z : Nat} {g : Nat} (hs : a.eval s = p) (hx : a.eval x = .slice (some ⟨g, 0, none⟩) 1 1)
    (hc : W.cell? ⟨g, 0, none⟩ = some (.int .u64 (z : Int))) (hT : Duo w W p r P R) (hlen : P.length + 1 ≤ 17592186044416)
    (h : ∀ p' w', Duo w w' p' r (P ++ [z]) R → wpList Try.prog ops Q rest (a.put o.dst p') w') :
    wpList Try.prog ops Q (o :: rest) a W := by
  obtain ⟨h1, h2, h3, h4⟩ := hT
  refine list_app hgd s x ho hs hx hc h2 hlen h1.size ?_
  intro g' cap w' k1 k2 k3 k4
  refine h _ w' ⟨h1.trans (below_grown k2 h1.size fun q hq => (World.ownsRow.lt h2 q hq).1), k1, h3.grew k2 (fun q hq e => h4 q e hq), ?_⟩
  intro q hq e
  have hq2 : g' = q := by simpa [Value.ownBlock] using hq
  subst hq2
  rcases k3 with k3 | k3
  · exact h4 _ k3 e
  · have := (World.ownsRow.lt h3 _ e).2
    omega
theorem list_duo' {ops : Array Oper} {rest : List Oper} {o : Oper} {a : Act} {Q : Exit → Act → World → Prop} (hgd : o.guard = none) (s x : Operand)
    (ho : o.op = .call { callee := .builtin .append, args := #[s, x], argTypes := #[22, 22] }) {z : Nat} {g : Nat} (hs : a.eval s = r) (hx : a.eval x = .slice (some ⟨g, 0, none⟩) 1 1)
    (hc : W.cell? ⟨g, 0, none⟩ = some (.int .u64 (z : Int))) (hT : Duo w W p r P R) (hlen : R.length + 1 ≤ 17592186044416)
    (h : ∀ r' w', Duo w w' p r' P (R ++ [z]) → wpList Try.prog ops Q rest (a.put o.dst r') w') :
    wpList Try.prog ops Q (o :: rest) a W :=
  list_duo hgd s x ho hs hx hc hT.flip hlen fun r' w' h1 => h r' w' h1.flip
end
end Go.Proofs.Ytdcebkhdnhdejaa
