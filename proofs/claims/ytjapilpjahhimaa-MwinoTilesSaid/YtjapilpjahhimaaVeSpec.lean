/- vec: Check, checkPair, Dot, Largest. -/
import Derived.Test.YtjapilpjahhimaaFmNum
import Derived.Test.YtjapilpjahhimaaShSpec
import Derived.Test.YtjapilpjahhimaaFaOwn
import Derived.Test.YtjapilpjahhimaaFmSpec
import Derived.Test.YtjapilpjahhimaaFcNum
namespace Go.Proofs.Ytjapilpjahhimaa
open Go.RowKit Go.Shelf
theorem vec_nf {x : Nat} {w : World} (hx : (x : Int) ≤ 18446744073709551615) : Calls Try.prog 98 #[.int .u64 (x : Int)] w fun e W' => e = .returned (.bool (decide (2 ≤ cls x))) ∧ w = W' := by
  have hc := pclass1 (a := x) (w := w) hx
  by_cases h : 2 ≤ cls x
  · have hd : decide ((1 : Int) < (cls x : Int)) = true := decide_eq_true (by omega)
    rw [decide_eq_true h]
    clear h
    generalize cls x = c at *
    go_enter Try.func98, Try.ntmps98
    go_wp2_with fail
    refine hc.mono ?_
    rintro e w1 ⟨rfl, rfl⟩
    clear hc
    go_wp2
    go_ret
    exact ⟨rfl, rfl⟩
  · have hd : decide ((1 : Int) < (cls x : Int)) = false := decide_eq_false (by omega)
    rw [decide_eq_false h]
    clear h
    generalize cls x = c at *
    go_enter Try.func98, Try.ntmps98
    go_wp2_with fail
    refine hc.mono ?_
    rintro e w1 ⟨rfl, rfl⟩
    clear hc
    go_wp2
    go_ret
    exact ⟨rfl, rfl⟩
theorem vec_nfb {x : Nat} {w : World} (hx : x < 18446744073709551616) : Calls Try.prog 98 #[.int .u64 (x : Int)] w fun e W' => e = .returned (.bool (decide (2 ≤ cls x))) ∧ Below w.heap.size w W' :=
  (vec_nf (by omega)).mono fun e W' ⟨h1, h2⟩ => ⟨h1, h2 ▸ Below.refl _ _⟩
theorem finB_any (xs : List Nat) : finB xs xs.length = !(xs.any fun x => decide (2 ≤ cls x)) := by
  cases h : xs.any (fun x => decide (2 ≤ cls x))
  · rw [Bool.not_false, finB_iff]
    intro j hj
    rw [List.any_eq_false] at h
    have := h (lim xs j) (by unfold lim; rw [List.getElem?_eq_getElem hj]; exact List.getElem_mem hj)
    simp only [decide_eq_true_eq] at this
    omega
  · rw [Bool.not_true]
    obtain ⟨x, hx, h2⟩ := List.any_eq_true.1 h
    obtain ⟨j, hj, rfl⟩ := List.getElem_of_mem hx
    refine finB_not hj ?_
    unfold lim
    rw [List.getElem?_eq_getElem hj]
    simpa using h2
theorem vec_contains {v : Value} {xs : List Nat} {w : World} (hA : Arg w v xs) (hl : Low 18446744073709551616 xs) (hn : xs.length ≤ 17592186044416) :
    Calls Try.prog 47 #[v, .func (.func 98) #[] #[]] w fun e W' => e = .returned (.bool (!finB xs xs.length)) ∧ Below w.heap.size w W' := by
  have h := containsFunc_u64 (k := 98) (fs := #[]) (fun x => decide (2 ≤ cls x)) hA (by omega) (enters_of Try.func98 (by kernel_rfl) rfl) (fun x W hx _ => vec_nfb (hl x hx))
  rwa [finB_any, Bool.not_not]
theorem vec_check {v : Value} {xs : List Nat} {w : World} (hA : Arg w v xs) (hl : Low 18446744073709551616 xs) (hn : xs.length ≤ 17592186044416) :
    Calls Try.prog 111 #[v] w fun e W' => e = .returned (.int .i64 (chkV xs)) ∧ Below w.heap.size w W' := by
  have hc := vec_contains hA hl hn
  obtain ⟨a, cap, rfl⟩ := hA.slice
  unfold chkV
  by_cases h : 64 < xs.length
  · have d : decide ((64 : Int) < (xs.length : Int)) = true := decide_eq_true (by omega)
    rw [if_pos h]
    clear h hA hc
    generalize xs.length = m at *
    go_enter Try.func111, Try.ntmps111
    go_wp2
    go_ret
    exact ⟨rfl, Below.refl _ _⟩
  · have d : decide ((64 : Int) < (xs.length : Int)) = false := decide_eq_false (by omega)
    rw [if_neg h]
    clear h hA
    cases hf : finB xs xs.length
    · rw [hf] at hc
      rw [if_neg (by decide)]
      clear hf
      generalize xs.length = m at *
      go_enter Try.func111, Try.ntmps111
      go_wp2_with fail
      refine hc.mono ?_
      rintro e w1 ⟨rfl, b1⟩
      clear hc
      go_wp2
      go_ret
      exact ⟨rfl, b1⟩
    · rw [hf] at hc
      rw [if_pos rfl]
      clear hf
      generalize xs.length = m at *
      go_enter Try.func111, Try.ntmps111
      go_wp2_with fail
      refine hc.mono ?_
      rintro e w1 ⟨rfl, b1⟩
      clear hc
      go_wp2
      go_ret
      exact ⟨rfl, b1⟩
theorem vec_add {a b : Nat} {w : World} (ha : (a : Int) ≤ 18446744073709551615) (hb : (b : Int) ≤ 18446744073709551615) :
    Calls Try.prog 96 #[.int .u64 (a : Int), .int .u64 (b : Int)] w fun e W' => e = .returned (.int .u64 (plusU a b : Int)) ∧ Below w.heap.size w W' := by
  have h := fadd_add (mode := 0) (w := w) ha hb
  unfold plusU
  generalize radd a b 0 = p at *
  obtain ⟨x, y⟩ := p
  dsimp only at h ⊢
  clear ha hb
  go_enter Try.func96, Try.ntmps96
  go_wp2_with fail
  refine h.mono ?_
  rintro e w1 ⟨rfl, b1⟩
  clear h
  go_wp2
  go_ret
  exact ⟨rfl, b1⟩
theorem vec_mul {a b : Nat} {w : World} (ha : (a : Int) ≤ 18446744073709551615) (hb : (b : Int) ≤ 18446744073709551615) :
    Calls Try.prog 97 #[.int .u64 (a : Int), .int .u64 (b : Int)] w fun e W' => e = .returned (.int .u64 (timesU a b : Int)) ∧ Below w.heap.size w W' := by
  have h := fmul_mul (mode := 0) (w := w) ha hb
  unfold timesU
  generalize rmul a b 0 = p at *
  obtain ⟨x, y⟩ := p
  dsimp only at h ⊢
  clear ha hb
  go_enter Try.func97, Try.ntmps97
  go_wp2_with fail
  refine h.mono ?_
  rintro e w1 ⟨rfl, b1⟩
  clear h
  go_wp2
  go_ret
  exact ⟨rfl, b1⟩
def nfE (a : Nat) : Int := if 2 ≤ cls a then 12 else 0
set_option maxRecDepth 100000 in
set_option maxHeartbeats 8000000 in
theorem vec_pair {va vb : Value} {xs ys : List Nat} {a : Nat} {w : World} (hA : Arg w va xs) (hB : Arg w vb ys) (hx : Low 18446744073709551616 xs) (hy : Low 18446744073709551616 ys) (hxn : xs.length ≤ 17592186044416) (hyn : ys.length ≤ 17592186044416) (ha : (a : Int) ≤ 18446744073709551615) :
    Calls Try.prog 95 #[.agg #[va, vb], .int .u64 (a : Int)] w fun e W' => e = .returned (.int .i64 (bothV xs ys (nfE a))) ∧ Below w.heap.size w W' := by
  have h1 := fun (W : World) (h : Below w.heap.size w W) => vec_check (hA.behind h) hx hxn
  have h2 := fun (W : World) (h : Below w.heap.size w W) => vec_check (hB.behind h) hy hyn
  have h3 := fun w => vec_nf (w := w) ha
  obtain ⟨a1, c1, rfl⟩ := hA.slice
  obtain ⟨a2, c2, rfl⟩ := hB.slice
  have HB : Hid (∀ (_ : chkV xs ≠ 0), bothV xs ys (nfE a) = chkV xs) := Lib.hid (fun h => by unfold bothV; rw [if_pos h])
  have HB2 : Hid (∀ (_ : chkV xs = 0) (_ : chkV ys ≠ 0), bothV xs ys (nfE a) = chkV ys) := Lib.hid (fun h h' => by unfold bothV; rw [if_neg (by simp [h]), if_pos h'])
  have HB3 : Hid (∀ (_ : chkV xs = 0) (_ : chkV ys = 0), bothV xs ys (nfE a) = if 2 ≤ cls a then 12 else if xs.length ≠ ys.length then 11 else 0) := Lib.hid (fun h h' => by
    unfold bothV nfE
    rw [if_neg (by simp [h]), if_neg (by simp [h'])]
    by_cases q : 2 ≤ cls a
    · rw [if_pos q, if_pos q]; rfl
    · rw [if_neg q, if_neg q]; rfl)
  generalize bothV xs ys (nfE a) = bb at *
  have H1 := Lib.hid h1
  have H2 := Lib.hid h2
  clear h1 h2 hA hB
  generalize xs.length = m at *
  generalize ys.length = n at *
  obtain ⟨bx, G⟩ := mbox w #[.slice a1 m c1, .slice a2 n c2] 115 _ rfl
  have x0 : ∀ w : World, (Instr.index 115 (.agg #[.slice a1 m c1, .slice a2 n c2]) (.int .i64 0)).run Try.prog w = .ok (.slice a1 m c1) w := fun _ => by kernel_rfl
  have x1 : ∀ w : World, (Instr.index 115 (.agg #[.slice a1 m c1, .slice a2 n c2]) (.int .i64 1)).run Try.prog w = .ok (.slice a2 n c2) w := fun _ => by kernel_rfl
  have k0 := G.cell (i := 0) rfl
  have k1 := G.cell (i := 1) rfl
  generalize chkV xs = ex at *
  generalize chkV ys = ey at *
  go_enter Try.func95, Try.ntmps95
  go_wp2
  generalize w.alloc (.cells #[.slice a1 m c1, .slice a2 n c2] 115) = W0 at *
  go_loopw [9] (fun i wr => ∃ (k : Nat) (z : Int), k ≤ 2 ∧ z = k ∧ i = .int .i64 z ∧ Hid (1 ≤ k → ex = 0) ∧ Hid (2 ≤ k → ey = 0) ∧ Below W0.heap.size W0 wr) (fun i _ => 2 - (intOf i).toNat)
  case atStart => exact ⟨0, 0, by omega, rfl, rfl, Lib.hid (fun h => absurd h (by decide)), Lib.hid (fun h => absurd h (by decide)), Below.refl _ _⟩
  case round =>
    obtain ⟨k, z, hk, hz, rfl, HE1, HE2, hB⟩ := hrel
    have hBw := below_both bx hB
    rcases (show k = 0 ∨ k = 1 ∨ k = 2 by omega) with rfl | rfl | rfl
    · obtain rfl : z = 0 := hz
      have hc := H1.out wr hBw
      by_cases he : ex = 0
      · have HE := Lib.hid he
        have d : (ex != 0) = false := by simp [he]
        clear he
        go_wp2_with fail
        refine hc.mono ?_
        rintro e w2 ⟨rfl, b2⟩
        clear hc
        go_wp2
        go_roundw
        case rel => exact ⟨1, 1, by omega, rfl, rfl, Lib.hid (fun _ => HE.out), Lib.hid (fun h => absurd h (by decide)), below_both hB b2⟩
        case measure => simp [intOf]
      · have d : (ex != 0) = true := bne_iff_ne.2 he
        have HF := Lib.hid (HB.out he)
        clear he
        go_wp2_with fail
        refine hc.mono ?_
        rintro e w2 ⟨rfl, b2⟩
        clear hc
        go_wp2
        go_ret
        exact ⟨by rw [HF.out]; rfl, below_both hBw b2⟩
    · obtain rfl : z = 1 := hz
      have hc := H2.out wr hBw
      have hx0 := HE1.out (by omega)
      by_cases he : ey = 0
      · have HE := Lib.hid he
        have HX := Lib.hid hx0
        have d : (ey != 0) = false := by simp [he]
        clear he hx0
        go_wp2_with fail
        refine hc.mono ?_
        rintro e w2 ⟨rfl, b2⟩
        clear hc
        go_wp2
        go_roundw
        case rel => exact ⟨2, 2, by omega, rfl, rfl, Lib.hid (fun _ => HX.out), Lib.hid (fun _ => HE.out), below_both hB b2⟩
        case measure => simp [intOf]
      · have d : (ey != 0) = true := bne_iff_ne.2 he
        have HF := Lib.hid (HB2.out hx0 he)
        clear he hx0
        go_wp2_with fail
        refine hc.mono ?_
        rintro e w2 ⟨rfl, b2⟩
        clear hc
        go_wp2
        go_ret
        exact ⟨by rw [HF.out]; rfl, below_both hBw b2⟩
    · obtain rfl : z = 2 := hz
      have HF := Lib.hid (HB3.out (HE1.out (by omega)) (HE2.out (by omega)))
      have k0 := (G.behind hB).cell (i := 0) rfl
      have k1 := (G.behind hB).cell (i := 1) rfl
      by_cases q : 2 ≤ cls a
      · have q2 := decide_eq_true q
        rw [if_pos q] at HF
        generalize decide (2 ≤ cls a) = bq at *
        subst q2
        clear q
        go_wp2_with fail
        refine (h3 _).mono ?_
        rintro e w2 ⟨rfl, rfl⟩
        clear h3
        go_wp2
        go_ret
        exact ⟨by rw [HF.out]; rfl, hBw⟩
      · have q2 := decide_eq_false q
        rw [if_neg q] at HF
        generalize decide (2 ≤ cls a) = bq at *
        subst q2
        clear q
        by_cases hmn : m = n
        · have d : ((m : Int) != (n : Int)) = false := by simp [hmn]
          rw [if_neg (fun h => h hmn)] at HF
          clear hmn
          go_wp2_with fail
          refine (h3 _).mono ?_
          rintro e w2 ⟨rfl, rfl⟩
          clear h3
          go_wp2
          go_ret
          exact ⟨by rw [HF.out]; rfl, hBw⟩
        · have d : ((m : Int) != (n : Int)) = true := bne_iff_ne.2 (by omega)
          rw [if_pos hmn] at HF
          clear hmn
          go_wp2_with fail
          refine (h3 _).mono ?_
          rintro e w2 ⟨rfl, rfl⟩
          clear h3
          go_wp2
          go_ret
          exact ⟨by rw [HF.out]; rfl, hBw⟩
/-- what Dot tells: its error -/
def dotE (xs ys : List Nat) : Int := if bothV xs ys 0 ≠ 0 then bothV xs ys 0 else if cls (dotV xs ys xs.length) ≤ 1 then 0 else 13
def dotR (xs ys : List Nat) : Nat := if dotE xs ys = 0 then dotV xs ys xs.length else 0
set_option maxRecDepth 100000 in
set_option maxHeartbeats 8000000 in
theorem vec_dot {va vb : Value} {xs ys : List Nat} {w : World} (hA : Arg w va xs) (hB : Arg w vb ys) (hx : Low 18446744073709551616 xs) (hy : Low 18446744073709551616 ys) (hxn : xs.length ≤ 17592186044416) (hyn : ys.length ≤ 17592186044416) :
    Calls Try.prog 74 #[va, vb] w fun e W' => e = .returned (.tuple #[.int .u64 (dotR xs ys : Int), .int .i64 (dotE xs ys)]) ∧ Below w.heap.size w W' := by
  have hp := vec_pair (a := 0) hA hB hx hy hxn hyn (by decide)
  rw [show nfE 0 = 0 from by decide] at hp
  have hz := fun w => pzero1 false w
  rw [show sgn false = 0 from rfl] at hz
  have hxl := fun k => lim_lt hx (by decide : 0 < 18446744073709551616) k
  have hyl := fun k => lim_lt hy (by decide : 0 < 18446744073709551616) k
  have hdl := dotV_lt xs ys
  obtain ⟨S, a, cap, hS, rfl, hcap, HA⟩ := hA.opened
  obtain ⟨T, b, bap, hT, rfl, hbap, HB⟩ := hB.opened
  clear hA hB hcap hbap
  by_cases h0 : bothV xs ys 0 = 0
  · have hln := (bothV_ok h0).2.2.2
    rw [h0] at hp
    have HR : Hid (dotE xs ys = if cls (dotV xs ys xs.length) ≤ 1 then 0 else 13) := Lib.hid (by unfold dotE; rw [if_neg (by simp [h0])])
    have HD : Hid (dotR xs ys = if dotE xs ys = 0 then dotV xs ys xs.length else 0) := Lib.hid rfl
    rw [← hln] at HB hp ⊢
    have HXL := Lib.hid hxl
    have HYL := Lib.hid hyl
    have HDL := Lib.hid hdl
    have HST := Lib.hid (show ∀ k, dotV xs ys (k + 1) = plusU (dotV xs ys k) (timesU (lim xs k) (lim ys k)) from fun _ => rfl)
    have HD0 := Lib.hid (show dotV xs ys 0 = 0 from rfl)
    clear hxl hyl hdl h0 hln hyn
    generalize dotR xs ys = dr at *
    generalize dotE xs ys = de at *
    generalize dotV xs ys = F at *
    generalize xs.length = m at *
    go_enter Try.func74, Try.ntmps74
    go_wp2_with fail
    refine (hz _).mono ?_
    rintro e w1 ⟨rfl, rfl⟩
    go_wp2_with fail
    refine hp.mono ?_
    rintro e w1 ⟨rfl, b1⟩
    clear hp
    go_wp2_with fail
    refine (hz _).mono ?_
    rintro e w2 ⟨rfl, rfl⟩
    clear hz
    go_wp2
    go_loopw [7, 20] (fun s i wr => ∃ k n : Nat, k ≤ m ∧ i = .int .i64 k ∧ s = .int .u64 (n : Int) ∧ Hid (n = F k) ∧ Below w.heap.size w wr) (fun _ i _ => m - (intOf i).toNat)
    case atStart => exact ⟨0, 0, Nat.zero_le _, rfl, rfl, Lib.hid HD0.out.symm, b1⟩
    case round =>
      obtain ⟨k, n, hk, rfl, rfl, HN, hB⟩ := hrel
      by_cases hlt : k < m
      · obtain ⟨oa, rfl, ka⟩ := HA.out wr hB k hlt
        obtain ⟨ob, rfl, kb⟩ := HB.out wr hB k hlt
        have h1 := HXL.out k
        have h2 := HYL.out k
        have h3 : (n : Int) ≤ 18446744073709551615 := by have := HDL.out k; rw [← HN.out] at this; omega
        have HS : Hid (F (k + 1) = plusU n (timesU (lim xs k) (lim ys k))) := Lib.hid (by rw [HST.out, HN.out])
        generalize lim xs k = x at *
        generalize lim ys k = y at *
        have hm := fun w => vec_mul (a := x) (b := y) (w := w) (by omega) (by omega)
        have h4 := timesU_lt x y
        have ha := fun w => vec_add (a := n) (b := timesU x y) (w := w) h3 (by omega)
        generalize timesU x y = t at *
        generalize plusU n t = s at *
        have HM := Lib.hid hm
        have HAD := Lib.hid ha
        clear hm ha h1 h2 h3 h4
        have hS2 := Nat.lt_of_lt_of_le hS hB.size
        have hT2 := Nat.lt_of_lt_of_le hT hB.size
        have Br : Below wr.heap.size wr wr := Below.refl _ _
        go_wp2_with fail
        go_region_held3 (fun w' => w'.cell? ⟨S, oa + k, none⟩ = some (.int .u64 (x : Int)) ∧ w'.cell? ⟨T, ob + k, none⟩ = some (.int .u64 (y : Int)))
          (first | with_reducible exact ⟨(Br.cell (p := ⟨S, oa + k, none⟩) hS2).trans ka, (Br.cell (p := ⟨T, ob + k, none⟩) hT2).trans kb⟩ | with_reducible exact ⟨(Br.drew.cell (p := ⟨S, oa + k, none⟩) hS2).trans ka, (Br.drew.cell (p := ⟨T, ob + k, none⟩) hT2).trans kb⟩ | (refine ⟨?_, ?_⟩ <;> go_keep))
          (first
            | (go_at_call 97; (with_reducible refine (HM.out _).mono ?_); rintro e v4 ⟨rfl, bz⟩; replace Br : Below wr.heap.size wr v4 := (by first | with_reducible exact below_both Br bz | with_reducible exact below_both Br.drew bz); clear bz)
            | (go_at_call 96; (with_reducible refine (HAD.out _).mono ?_); rintro e v4 ⟨rfl, bz⟩; replace Br : Below wr.heap.size wr v4 := (by first | with_reducible exact below_both Br bz | with_reducible exact below_both Br.drew bz); clear bz))
        go_wp2
        go_roundw
        case rel => exact ⟨k + 1, s, by omega, by simp, rfl, Lib.hid HS.out.symm, below_both hB Br⟩
        case measure => simp [intOf]; omega
      · obtain rfl : k = m := by omega
        have h3 : (n : Int) ≤ 18446744073709551615 := by have := HDL.out k; rw [← HN.out] at this; omega
        have hf := fun w => vec_nf (x := n) (w := w) h3
        have HR2 : Hid (de = if cls n ≤ 1 then 0 else 13) := Lib.hid (by rw [HR.out, HN.out])
        by_cases hc : cls n ≤ 1
        · have q2 : decide (2 ≤ cls n) = false := decide_eq_false (by omega)
          rw [q2] at hf
          rw [if_pos hc] at HR2
          have HD2 : Hid (dr = n) := Lib.hid (by rw [HD.out, HR2.out, if_pos rfl, HN.out])
          clear hc q2 h3
          go_wp2_with fail
          refine (hf _).mono ?_
          rintro e w2 ⟨rfl, rfl⟩
          clear hf
          go_wp2
          go_ret2
          exact ⟨by rw [HR2.out, HD2.out]; rfl, hB⟩
        · have q2 : decide (2 ≤ cls n) = true := decide_eq_true (by omega)
          rw [q2] at hf
          rw [if_neg hc] at HR2
          have HD2 : Hid (dr = 0) := Lib.hid (by rw [HD.out, HR2.out, if_neg (by decide)])
          clear hc q2 h3
          go_wp2_with fail
          refine (hf _).mono ?_
          rintro e w2 ⟨rfl, rfl⟩
          clear hf
          go_wp2
          go_ret2
          exact ⟨by rw [HR2.out, HD2.out]; rfl, hB⟩
  · have HE : Hid (dotE xs ys = bothV xs ys 0) := Lib.hid (by unfold dotE; rw [if_pos h0])
    have HD : Hid (dotR xs ys = 0) := Lib.hid (by unfold dotR; rw [if_neg (by rw [HE.out]; exact h0)])
    have d : (bothV xs ys 0 != 0) = true := bne_iff_ne.2 h0
    clear h0 hxl hyl hdl
    generalize dotR xs ys = dr at *
    generalize dotE xs ys = de at *
    generalize bothV xs ys 0 = bb at *
    generalize xs.length = m at *
    generalize ys.length = n at *
    go_enter Try.func74, Try.ntmps74
    go_wp2_with fail
    refine (hz _).mono ?_
    rintro e w1 ⟨rfl, rfl⟩
    go_wp2_with fail
    refine hp.mono ?_
    rintro e w1 ⟨rfl, b1⟩
    clear hp
    go_wp2
    go_ret2
    exact ⟨by rw [HE.out, HD.out]; rfl, b1⟩
end Go.Proofs.Ytjapilpjahhimaa
