/- vernierlaw21: alive; GemmOne, walked. -/
import Derived.Test.YtjiilechfjkkfaaGeSpec
import Derived.Test.YtjiilechfjkkfaaMaTl
import Derived.BigQuiet
namespace Go.Proofs.Ytjiilechfjkkfaa
open Go.RowKit Go.Shelf
theorem rmul_twos : rmul 4611686018427387904 4611686018427387904 0 = (4616189618054758400, 0) := by
  have e1 : neg6 4611686018427387904 = false := by decide
  have e2 : sig 4611686018427387904 = 4503599627370496 := by decide
  have e3 : xpo 4611686018427387904 = -51 := by decide
  have f1 : neg6 4616189618054758400 = false := by decide
  have f2 : sig 4616189618054758400 = 4503599627370496 := by decide
  have f3 : xpo 4616189618054758400 = -50 := by decide
  have c1 : cls 4611686018427387904 = 1 := by decide
  have hr : rnd false (4503599627370496 * 4503599627370496) 1 (-51 + -51) 0 = (4616189618054758400, 0) := by
    have h := rnd_is (a := 4616189618054758400) (N := 4503599627370496 * 4503599627370496) (k := 52) (exp := -51 + -51) (mode := 0) (by decide) (by decide) (by decide) (.inl ⟨by rw [f2], by rw [f3]; rfl⟩)
    rw [f1] at h
    exact h
  unfold rmul
  rw [c1, e1, e2, e3, if_neg (by omega), if_neg (by omega), if_neg (by omega), if_neg (by omega)]
  exact hr
theorem l21_muls : tellV (mulP 1 1 1 [4611686018427387904] [4611686018427387904]) (mulF 1 1 1 [4611686018427387904] 1 1 1 [4611686018427387904]) = 0 ∧ mulP 1 1 1 [4611686018427387904] [4611686018427387904] = [4616189618054758400] := by
  have h1 : timesU 4611686018427387904 4611686018427387904 = 4616189618054758400 := by unfold timesU; rw [rmul_twos]
  have h2 : plusU 0 4616189618054758400 = 4616189618054758400 := (plus_sgn (a := 4616189618054758400) (by decide) (by decide) false).2
  have e : mulP 1 1 1 [4611686018427387904] [4611686018427387904] = [4616189618054758400] := by
    show [plusU 0 (timesU 4611686018427387904 4611686018427387904)] = _
    rw [h1, h2]
  rw [e]
  exact ⟨by decide, rfl⟩
set_option maxRecDepth 100000 in
set_option maxHeartbeats 8000000 in
theorem l21_alive (w : World) : Calls Try.prog 47 #[] w fun e W' => e = .returned (.bool true) ∧ Below w.heap.size w W' := by
  have b1 := bel_new w (.cells #[.int .u64 4611686018427387904] 32)
  have af : Arg (w.alloc (.cells #[.int .u64 4611686018427387904] 32)) (.slice (some ⟨w.heap.size, 0, none⟩) 1 1) [4611686018427387904] := by
    refine ⟨w.heap.size, by rw [World.size_alloc]; omega, .inr ⟨0, 1, rfl, Nat.le_refl _, fun j hj => ?_⟩⟩
    have : j = 0 := by simp at hj; omega
    subst this
    rw [World.cell?_alloc_new]; rfl
  obtain ⟨b2, G⟩ := mbox (w.alloc (.cells #[.int .u64 4611686018427387904] 32)) #[.int .i64 1, .int .i64 1, .slice (some ⟨w.heap.size, 0, none⟩) 1 1] 24 _ rfl
  have ha := fun (W : World) (h : Arg W (.slice (some ⟨w.heap.size, 0, none⟩) 1 1) [4611686018427387904]) => gemm_mul (R := 1) (C := 1) (R' := 1) (C' := 1) h h (low_word (by decide)) (low_word (by decide))
  rw [l21_muls.1, l21_muls.2] at ha
  have HA := Lib.hid ha
  clear ha
  replace af := af.behind b2
  have B := below_both b1 b2
  have c0 := G.cell (i := 0) rfl
  have c1 := G.cell (i := 1) rfl
  have c2 := G.cell (i := 2) rfl
  simp only [World.size_alloc] at c0 c1 c2 G
  clear b1 b2
  go_enter Try.func47, Try.ntmps47
  go_wp2_with fail
  generalize (w.alloc (.cells #[.int .u64 4611686018427387904] 32)).alloc (.cells #[.int .i64 1, .int .i64 1, .slice (some ⟨w.heap.size, 0, none⟩) 1 1] 24) = W0 at *
  refine (HA.out _ af).mono ?_
  rintro e w5 ⟨R3, C3, b, n, c', rfl, hN, hR, b5⟩
  have haN : Arg w5 (.slice b n c') [4616189618054758400] := hN.arg
  obtain ⟨T, q, rfl, rfl, hT, HT⟩ := haN.one
  clear hN hR haN
  obtain ⟨b6, G6⟩ := mbox w5 #[.int .i64 R3, .int .i64 C3, .slice (some ⟨T, q, none⟩) 1 c'] 24 _ rfl
  have B6 := below_both b5 b6
  have f2 := G6.cell (i := 2) rfl
  have k2 := HT.out _ b6
  have HB := Lib.hid (below_both B B6)
  go_wp2
  go_ret
  exact ⟨rfl, HB.out⟩
theorem id_tab (n : Nat) : (tab n n fun i j => if i = j then 4607182418800017408 else 0) = idM n := rfl
theorem id_low (n : Nat) : Low 18446744073709551616 (idM n) := rowV_low fun k _ => by split <;> decide
theorem id_fin (n : Nat) : finB (idM n) (idM n).length = true := finB_iff.2 fun j hj => by
  unfold idM at hj ⊢
  rw [rowV_length] at hj
  rw [rowV_lim _ hj]
  split <;> decide
theorem alk_fin {a b : Nat} (h : Alk a b) (hb : cls b ≤ 1) : cls a ≤ 1 := by
  rcases h with rfl | ⟨⟨s, rfl⟩, _⟩
  · exact hb
  · rw [(sgn_kind s).1]; omega
theorem alk_ways {a b : Nat} (h : Alk a b) : a = b ∨ (a = 0 ∧ b = 9223372036854775808) ∨ (a = 9223372036854775808 ∧ b = 0) := by
  rcases h with h | ⟨⟨s, rfl⟩, t, rfl⟩
  · exact .inl h
  · cases s <;> cases t
    · exact .inl rfl
    · exact .inr (.inl ⟨rfl, rfl⟩)
    · exact .inr (.inr ⟨rfl, rfl⟩)
    · exact .inl rfl
set_option maxRecDepth 100000 in
set_option maxHeartbeats 8000000 in
theorem gemmOne_calls {R C : Int} {a : Option Addr} {m cap : Nat} {xs : List Nat} {w : World} (hA : Arg w (.slice a m cap) xs) (hx : Low 18446744073709551616 xs) :
    Calls Try.prog 13 #[.agg #[.int .i64 R, .int .i64 C, .slice a m cap]] w fun e W' => e = .returned (.bool true) ∧ Below w.heap.size w W' := by
  obtain ⟨B, G⟩ := mbox w #[.int .i64 R, .int .i64 C, .slice a m cap] 24 _ rfl
  have hal := l21_alive
  have HF := Lib.hid (fun (W : World) (h : Below w.heap.size w W) => shape_finite (R := R) (C := C) (hA.behind h) hx)
  have hmx : m = xs.length := by
    obtain ⟨a', c', e⟩ := hA.slice
    simp only [Value.slice.injEq] at e
    omega
  by_cases hf : finM R C m xs = 0
  · rw [hf] at HF
    have hm := (finM_ok hf).1
    obtain ⟨q1, q2, q3, q4, q5⟩ := mayM_iff.1 hm
    obtain ⟨r, rfl⟩ : ∃ r : Nat, R = r := ⟨R.toNat, by omega⟩
    obtain ⟨c, rfl⟩ : ∃ r : Nat, C = r := ⟨C.toNat, by omega⟩
    have hmn : m = r * c := by rw [← Int.natCast_mul] at q5; omega
    have hrc : r * c ≤ 4096 := by have := Nat.mul_le_mul (show r ≤ 64 by omega) (show c ≤ 64 by omega); omega
    have hfx : finB xs xs.length = true := by
      rw [hmx] at hf hm
      rw [finM_may hm] at hf
      cases h : finB xs xs.length
      · rw [h] at hf; exact absurd hf (by decide)
      · rfl
    have hid := fun w => shape_ident (n := c) w (by omega) (by omega)
    rw [id_tab] at hid
    have hmi : mayM c c (c * c) = true := mayM_iff.2 ⟨by omega, by omega, by omega, by omega, by rw [Int.natCast_mul]⟩
    have hil : (idM c).length = c * c := rowV_length _ _
    have hfi : finM c c (c * c) (idM c) = 0 := by
      have h2 := finM_may (R := (c : Int)) (C := (c : Int)) (ws := idM c) (by rw [hil]; exact hmi)
      rw [hil] at h2
      rw [h2, ← hil, id_fin, if_pos rfl]
    have hP : mulP r c c xs (idM c) = prodM r c c xs (idM c) := rfl
    have hk : ∀ k, k < r * c → Alk (lim (prodM r c c xs (idM c)) k) (lim xs k) := fun k hk => prod_id (by rw [← hmx]; exact hmn) (fun k hk => ⟨lim_lt hx (by decide) k, finB_iff.1 hfx k (by rw [← hmx, hmn]; exact hk)⟩) hk
    have hE : tellV (mulP r c c xs (idM c)) (mulF r c m xs c c (c * c) (idM c)) = 0 := by
      have e : mulF r c m xs c c (c * c) (idM c) = 0 := by
        unfold mulF
        rw [hf, hfi]
        simp [firstE]
      rw [e, tellV_yes, hP, finB_iff.2 (fun j hj => by
        have hj2 := hj
        rw [prodM_length] at hj2
        exact alk_fin (hk j hj2) (finB_iff.1 hfx j (by rw [← hmx, hmn]; exact hj2))), if_pos rfl]
    have hM := fun (W : World) (h : Below w.heap.size w W) (b : Option Addr) (c' : Nat) (hB : Arg W (.slice b (c * c) c') (idM c)) => gemm_mul (R := (r : Int)) (C := (c : Int)) (R' := (c : Int)) (C' := (c : Int)) (hA.behind h) hB hx (id_low c)
    rw [hE, if_pos rfl, hP] at hM
    have HM := Lib.hid hM
    have HK := Lib.hid hk
    have HPL := Lib.hid (prodM_length r c c xs (idM c))
    have HMN := Lib.hid (And.intro hmn hmx)
    obtain ⟨S, a', c'', hS, e, hcap, HX⟩ := hA.opened
    simp only [Value.slice.injEq] at e
    obtain ⟨rfl, -, rfl⟩ := e
    rw [← hmx] at HX
    have hm4 : (m : Int) ≤ 4096 := by omega
    generalize prodM r c c xs (idM c) = ps at *
    generalize idM c = is at *
    have c0 := G.cell (i := 0) rfl
    have c1 := G.cell (i := 1) rfl
    have c2 := G.cell (i := 2) rfl
    clear hf hm q1 q2 q3 q4 q5 hmn hrc hfx hmi hil hfi hk hE hM hmx hA hx hcap hP
    go_enter Try.func13, Try.ntmps13
    go_wp2_with fail
    generalize w.alloc (.cells #[.int .i64 (r : Int), .int .i64 (c : Int), .slice a m cap] 24) = W0 at *
    refine (hal _).mono ?_
    rintro e w1 ⟨rfl, b1⟩
    replace B := below_both B b1
    replace G := G.behind b1
    have c0 := G.cell (i := 0) rfl
    have c1 := G.cell (i := 1) rfl
    have c2 := G.cell (i := 2) rfl
    clear hal b1
    go_wp2_with fail
    refine (HF.out _ B).mono ?_
    rintro e w2 ⟨rfl, b2⟩
    replace B := below_both B b2
    replace G := G.behind b2
    have c1 := G.cell (i := 1) rfl
    clear HF b2
    go_wp2_with fail
    refine (hid _).mono ?_
    rintro e w3 ⟨b3, c3, rfl, hN3, k3⟩
    obtain ⟨j3, K3⟩ := mbox w3 #[.int .i64 (c : Int), .int .i64 (c : Int), .slice b3 (c * c) c3] 24 _ rfl
    have hI := hN3.arg.behind j3
    replace B := below_both B (below_both k3 j3)
    replace G := G.behind (below_both k3 j3)
    have c0 := G.cell (i := 0) rfl
    have c1 := G.cell (i := 1) rfl
    have c2 := G.cell (i := 2) rfl
    have d0 := K3.cell (i := 0) rfl
    have d1 := K3.cell (i := 1) rfl
    have d2 := K3.cell (i := 2) rfl
    clear hid hN3 k3 j3
    go_wp2_with fail
    generalize w3.alloc (.cells #[.int .i64 (c : Int), .int .i64 (c : Int), .slice b3 (c * c) c3] 24) = w4 at *
    refine (HM.out _ B _ _ hI).mono ?_
    rintro e w5 ⟨R5, C5, b5, n5, c5, rfl, hN5, hR5, k5⟩
    obtain ⟨rfl, rfl⟩ := hR5 trivial
    obtain ⟨T, ta, tc, hT, et, _, HP⟩ := hN5.arg.opened
    simp only [Value.slice.injEq] at et
    obtain ⟨rfl, hn5, rfl⟩ := et
    rw [HPL.out, ← HMN.out.1] at HP hn5
    obtain rfl : n5 = m := hn5
    obtain ⟨m, rfl⟩ : ∃ q, q = n5 := ⟨_, rfl⟩
    obtain ⟨j5, K5⟩ := mbox w5 #[.int .i64 (r : Int), .int .i64 (c : Int), .slice b5 m c5] 24 _ rfl
    replace B := below_both B (below_both k5 j5)
    replace G := G.behind (below_both k5 j5)
    have HJ := Lib.hid j5
    clear hN5 hR5 k5 j5 HM hI d0 d1 d2 c0 c1 K3
    have c2 := G.cell (i := 2) rfl
    have u2 := K5.cell (i := 2) rfl
    go_wp2_with fail
    generalize hw6 : w5.alloc (.cells #[.int .i64 (r : Int), .int .i64 (c : Int), .slice b5 m c5] 24) = w6 at *
    clear hw6
    go_loopw [7] (fun i wr => ∃ k : Nat, k ≤ m ∧ i = .int .i64 k ∧ Below w6.heap.size w6 wr) (fun i _ => m - (intOf i).toNat)
    case atStart => exact ⟨0, Nat.zero_le _, rfl, Below.refl _ _⟩
    case round =>
      obtain ⟨k, hk, rfl, hB⟩ := hrel
      have c2 : wr.cell? ⟨w.heap.size, 2, none⟩ = some (.slice a m cap) := (G.behind hB).cell (i := 2) rfl
      have u2 : wr.cell? ⟨w5.heap.size, 2, none⟩ = some (.slice b5 m c5) := (K5.behind hB).cell (i := 2) rfl
      by_cases hlt : k < m
      · obtain ⟨oa, rfl, ka⟩ := HX.out wr (below_both B hB) k hlt
        obtain ⟨ob, rfl, kb⟩ := HP.out wr (below_both HJ.out hB) k hlt
        have hway := alk_ways (HK.out k (by rw [← HMN.out.1]; exact hlt))
        rcases hway with h | ⟨h1, h2⟩ | ⟨h1, h2⟩
        · rw [h] at kb
          generalize lim xs k = x at *
          clear h
          have d : ((x : Int) != (x : Int)) = false := by simp
          go_wp2
          go_quiet (fail)
          go_wp2
          exact ⟨⟨k + 1, by omega, by simp, below_both hB (below_drewN _ _ _)⟩, by simp [intOf]; omega⟩
        · rw [h1] at kb
          rw [h2] at ka
          clear h1 h2
          go_wp2
          go_quiet (fail)
          go_wp2
          exact ⟨⟨k + 1, by omega, by simp, below_both hB (below_drewN _ _ _)⟩, by simp [intOf]; omega⟩
        · rw [h1] at kb
          rw [h2] at ka
          clear h1 h2
          go_wp2
          go_quiet (fail)
          go_wp2
          exact ⟨⟨k + 1, by omega, by simp, below_both hB (below_drewN _ _ _)⟩, by simp [intOf]; omega⟩
      · obtain rfl : k = m := by omega
        clear hlt
        go_wp2
        go_ret
        exact ⟨rfl, below_both B hB⟩
  · have d : (finM R C m xs != 0) = true := bne_iff_ne.2 hf
    generalize finM R C m xs = E at *
    clear hf hA hmx
    have c0 := G.cell (i := 0) rfl
    have c1 := G.cell (i := 1) rfl
    have c2 := G.cell (i := 2) rfl
    go_enter Try.func13, Try.ntmps13
    go_wp2_with fail
    generalize w.alloc (.cells #[.int .i64 R, .int .i64 C, .slice a m cap] 24) = W0 at *
    refine (hal _).mono ?_
    rintro e w1 ⟨rfl, b1⟩
    replace B := below_both B b1
    replace G := G.behind b1
    have c0 := G.cell (i := 0) rfl
    have c1 := G.cell (i := 1) rfl
    have c2 := G.cell (i := 2) rfl
    go_wp2_with fail
    refine (HF.out _ B).mono ?_
    rintro e w2 ⟨rfl, b2⟩
    go_wp2
    go_ret
    exact ⟨rfl, below_both B b2⟩
end Go.Proofs.Ytjiilechfjkkfaa
