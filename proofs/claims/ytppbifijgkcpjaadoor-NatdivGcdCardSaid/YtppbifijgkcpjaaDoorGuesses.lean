/- natdiv.guesses: numbers that fall by Newton's rule. -/
import Derived.Test.YtppbifijgkcpjaaDoorDivCalls
namespace Go.Proofs.YtppbifijgkcpjaaDoor
open Go.RowKit Go.Shelf

attribute [local go_sem] Oper.semAt_some

theorem guesses_in (F : Fence) (n : Nat) (hf : F.fn 31) (hro : F.round = none) (a : Option Addr) (len cap : Nat) (w : World) :
    CallsIn F n Tryd.prog 31 #[.slice a len cap] w fun e w' => e = .returned (.func (.func 42) #[] #[.pointer (some ⟨w.heap.size, 0, none⟩)]) ∧ w' = w.alloc (.cells #[.slice a len cap] 22) := by
  refine callsIn_of_wp Tryd.func31 rfl hf ?_ hro
  simp only [Tryd.ntmps31, List.size_toArray, List.length_cons, List.length_nil, Nat.reduceAdd, Nat.reduceSub, Array.replicate_succ, Array.replicate_zero, List.push_toArray, List.append_toArray, List.nil_append, List.cons_append]
  gi_wp2
  go_ret
  exact ⟨rfl, rfl⟩
/-- the number that a list of words in memory is -/
def numAt (W : World) : Value → Nat
  | .slice (some a) len _ => val 18446744073709551616 ((List.range len).map fun j => match W.cell? ⟨a.block, a.off + j, none⟩ with | some (.int _ z) => z.toNat | _ => 0)
  | _ => 0
theorem RdAt.num {S : Nat} {W : World} {v : Value} {xs : List Nat} (h : RdAt S W v xs) : numAt W v = val 18446744073709551616 xs := by
  rcases h with ⟨⟨a, c, rfl⟩, rfl⟩ | ⟨off, cap, rfl, _, hc⟩
  · cases a <;> rfl
  · show val _ ((List.range xs.length).map _) = _
    congr 1
    apply List.ext_getElem (by simp)
    intro j h1 h2
    simp [hc j h2, lim, h2]
theorem New.numAt {n : Nat} {W : World} {v : Value} {G : Nat} (h : New n W v (digs 18446744073709551616 G)) : numAt W v = G := by
  obtain ⟨S, h1, _⟩ := h
  rw [h1.num, val_digs (by decide)]
theorem cmp_is {va vb : Value} {M N i j : Nat} {c : Int} {w : World} (hA : Num w va M i) (hB : Num w vb N j) (hi : i ≤ 17592186044416) (hj : j ≤ 17592186044416) (h : cmpN M N = c) :
    Calls Tryd.prog 15 #[va, vb] w fun e W' => e = .returned (.int .i64 c) ∧ Below w.heap.size w W' := by
  subst h
  exact cmp_num hA hB hi hj
theorem below_drewW (W : World) : Below W.heap.size W W.drew := (Below.refl _ W).drew

/-- how the guesses end: there was none, of 0; or the last one is the root -/
def GEnd (X nb : Nat) (K : Value → Nat → World → Prop) (W V : World) : Prop := (X = 0 ∧ Below W.heap.size W V) ∨ ∃ v G, K v G V ∧ New nb V v (digs 18446744073709551616 G) ∧ G * G ≤ X ∧ X < (G + 1) * (G + 1)
set_option maxRecDepth 100000 in
set_option maxHeartbeats 4000000 in
theorem guesses_st (n : Nat) (hn : 2 ≤ n) (l Ba nb X i : Nat) (a : Option Addr) (len cap : Nat) (hi : i ≤ 1099511627776) (J : World → Prop) (K : Value → Nat → World → Prop) (Xp : World → Prop) (Z Xz : Code → World → Prop)
    (hJc : ∀ W, J W → W.cell? ⟨Ba, 0, none⟩ = some (.slice a len cap)) (hJn : ∀ W, J W → Num W (.slice a len cap) X i) (hJB : ∀ W W', J W → Below W.heap.size W W' → J W') (hKB : ∀ v G W W', K v G W → Below W.heap.size W W' → K v G W') (hXB : ∀ W W', Xp W → Below W.heap.size W W' → Xp W')
    (hJs : ∀ W, J W → nb ≤ W.heap.size)
    (hY : ∀ v G U, J U → New nb U v (digs 18446744073709551616 G) → G ≠ 0 → X < (G + 1) * (G + 1) → Xp U → YieldAt Fence.wide (n - 1) Tryd.prog l #[v] U fun e V => (e = .returned (.bool true) ∧ (J V ∧ New nb V v (digs 18446744073709551616 G) ∧ K v G V) ∧ Xp V) ∨ (e = .returned (.bool false) ∧ ∃ c, Z c V ∧ Xz c V))
    (W : World) (hJ : J W) (hX : Xp W) :
    CallsIn Fence.wide n Tryd.prog 42 #[.func (.yield l) #[] #[], .pointer (some ⟨Ba, 0, none⟩)] W fun e V => (∃ v, e = .returned v) ∧ ((GEnd X nb K W V ∧ J V ∧ Xp V) ∨ ∃ c, Z c V ∧ Xz c V) := by
  have h1 : 1 ≤ n := by omega
  have h00 := hJc W hJ
  have hN := hJn W hJ
  have hXl := hN.lt
  have hbits : nbits X ≤ 64 * i := nbits_le (by rw [Nat.pow_mul]; exact hXl)
  by_cases h0 : X = 0
  · subst h0
    have hb0 : Calls Tryd.prog 6 #[.slice a len cap] W fun e W' => e = .returned (.int .i64 0) ∧ Below W.heap.size W W' := bits_num hN (by omega)
    refine callsIn_of_wp Tryd.func42 rfl trivial ?_ rfl
    simp only [Tryd.ntmps42, List.size_toArray, List.length_cons, List.length_nil, Nat.reduceAdd, Nat.reduceSub, Array.replicate_succ, Array.replicate_zero, List.push_toArray, List.append_toArray, List.nil_append, List.cons_append]
    gi_wp2_with fail
    refine ⟨trivial, ?_⟩
    gi_at_call 6
    refine (callsIn_wide.2 hb0).mono ?_
    rintro e w1 ⟨rfl, b1⟩
    gi_wp2
    refine bodyPost_ret (results_none rfl _ _ _) rfl ?_
    exact ⟨⟨_, rfl⟩, .inl ⟨.inl ⟨rfl, b1⟩, hJB _ _ hJ b1, hXB _ _ hX b1⟩⟩
  · have hbp := nbits_bounds h0
    have hne : ((nbits X : Int) == 0) = false := beq_eq_false_iff_ne.2 (by omega)
    have hfirst := guess_first X
    have hbn := bits_num hN (by omega)
    obtain ⟨m, hm⟩ : ∃ m, m = (nbits X + 1) / 2 := ⟨_, rfl⟩
    rw [← hm] at hfirst
    have hmi : m ≤ 32 * i + 1 := by omega
    have hq : ((nbits X : Int) + 1) / 2 = (m : Int) := by omega
    have hb1' : (nbits X : Int) ≤ 70368744177664 := by omega
    have HB := Lib.hid hbp
    clear hm hbits hbp
    generalize nbits X = nx at *
    refine callsIn_of_wp Tryd.func42 rfl trivial ?_ rfl
    simp only [Tryd.ntmps42, List.size_toArray, List.length_cons, List.length_nil, Nat.reduceAdd, Nat.reduceSub, Array.replicate_succ, Array.replicate_zero, List.push_toArray, List.append_toArray, List.nil_append, List.cons_append]
    gi_wp2_with fail
    refine ⟨trivial, ?_⟩
    gi_at_call 6
    refine (callsIn_wide.2 hbn).mono ?_
    rintro e w1 ⟨rfl, b1⟩
    clear hbn h00
    gi_wp2_with fail
    have hw1 := num_word w1 1 (by decide)
    have b2 : Below w1.heap.size w1 (w1.alloc (.cells #[.int .u64 ((1 : Nat) : Int)] 34)) := (Below.refl _ w1).alloc (Nat.le_refl _) _
    have B2 := below_both b1 b2
    refine ⟨trivial, ?_⟩
    gi_at_call 16
    refine (callsIn_wide.2 (raise_num hw1 (m := m) (by omega) (by omega))).mono ?_
    rintro e w2 ⟨v, rfl, nv, b3⟩
    gi_wp2_with fail
    have B3 := below_both B2 b3
    have hJ2 := hJB _ _ hJ B3
    have hX2 := hXB _ _ hX B3
    rw [Nat.one_mul] at nv
    have nv := nv.from_ (Nat.le_trans (hJs _ hJ) B2.size)
    have hG0 : 2 ^ m ≠ 0 := Nat.ne_of_gt (Nat.pow_pos (by decide))
    have hGl : 2 ^ m < 18446744073709551616 ^ (i + 1) := by
      rw [show 18446744073709551616 = 2 ^ 64 from rfl, ← Nat.pow_mul]
      exact Nat.pow_lt_pow_right (by decide) (by omega)
    generalize 2 ^ m = G0 at *
    clear hw1 b1 b2 b3 B2 hq hne HB hN
    gi_loopw [4] (fun g wr => ∃ G : Nat, New nb wr g (digs 18446744073709551616 G) ∧ G ≠ 0 ∧ X < (G + 1) * (G + 1) ∧ G < 18446744073709551616 ^ (i + 1) ∧ J wr ∧ Xp wr) (fun g wr => numAt wr g)
    case atStart => exact ⟨G0, nv, hG0, hfirst, hGl, hJ2, hX2⟩
    case round =>
      obtain ⟨G, nG, hGz, hGX, hGi, hJr, hXr⟩ := hrel
      obtain ⟨fn, tmps, assign, body, hy, hR⟩ := hY _ G wr hJr nG hGz hGX hXr
      try dsimp only at hy
      have hnwl : nwt X G < 18446744073709551616 ^ (i + 1) := by
        have h1 : 18446744073709551616 ^ i ≤ 18446744073709551616 ^ (i + 1) := Nat.pow_le_pow_right (by decide) (by omega)
        have h2 := Nat.div_le_self X G
        unfold nwt
        omega
      have hql : X / G < 18446744073709551616 ^ i := Nat.lt_of_le_of_lt (Nat.div_le_self X G) hXl
      have hsl : (digs 18446744073709551616 (G + X / G)).length ≤ 17592186044416 := by
        have h1 : G + X / G < 18446744073709551616 ^ (i + 1 + i + 1) := pow_add_lt hGi hql
        have := digs_length (by decide) h1
        omega
      have hnw1 := nwt_above (X := X) hGz
      have hnw2 := nwt_pos (X := X) h0 hGz
      have H1 := Lib.hid hnwl
      have H2 := Lib.hid hql
      have H3 := Lib.hid hsl
      have H4 := Lib.hid hnw1
      have H5 := Lib.hid hnw2
      have H6 := Lib.hid hGX
      have H7 := Lib.hid hGi
      clear hnwl hql hsl hnw1 hnw2 hGX hGi
      gi_wp2
      refine hR.mono ?_
      rintro e W3 (⟨rfl, ⟨hJ3, n3, hK3⟩, hX3⟩ | ⟨rfl, hZ3⟩)
      · have hc3 := hJc W3 hJ3
        gi_wp2_with fail
        refine ⟨trivial, ?_⟩
        gi_at_call 8
        refine (callsIn_wide.2 (divmod_num (hJn W3 hJ3) (n3.num H7.out) (by omega) (by omega) hGz)).mono ?_
        rintro e W4 ⟨q, r, rfl, nq, nr, b4⟩
        gi_wp2_with fail
        refine ⟨trivial, ?_⟩
        gi_at_call 43
        refine (callsIn_wide.2 (addw_num ((n3.behind b4).num H7.out) (nq.num H2.out) (by omega) (by omega) (by have := Nat.pos_of_ne_zero hGz; exact Nat.ne_of_gt (Nat.lt_of_lt_of_le this (Nat.le_add_right _ _))))).mono ?_
        rintro e W5 ⟨S, off, cap', rfl, hcap, hseg, hS, b5⟩
        gi_wp2_with fail
        refine ⟨trivial, ?_⟩
        gi_at_call 27
        refine (callsIn_wide.2 (half_num (n0 := nb) hseg hcap H3.out (Nat.le_trans (Nat.le_trans (hJs _ hJ3) b4.size) hS))).mono ?_
        rintro e W6 ⟨v', rfl, nv', hO⟩
        have nv' : New nb W6 v' (digs 18446744073709551616 (nwt X G)) := nv'
        have b6 := Off.to_below b5 hO hS b5.size
        have b46 := below_both b4 b6
        have hJ6 := hJB _ _ hJ3 b46
        have hX6 := hXB _ _ hX3 b46
        have hK6 := hKB _ _ _ _ hK3 b46
        have n6 := n3.behind b46
        clear hseg hO b5 b6 nq nr hc3 hy hR
        by_cases hge : G ≤ nwt X G
        · obtain ⟨c, hc, hc0⟩ : ∃ c, Hid (cmpN (nwt X G) G = c) ∧ 0 ≤ c := by
            refine ⟨_, Lib.hid rfl, ?_⟩
            unfold cmpN
            rw [if_neg (by omega)]
            split <;> omega
          have HGE := Lib.hid hge
          clear hge
          gi_wp2_with fail
          refine ⟨trivial, ?_⟩
          gi_at_call 15
          refine (callsIn_wide.2 (cmp_is (nv'.num H1.out) (n6.num H7.out) (by omega) (by omega) hc.out)).mono ?_
          rintro e W7 ⟨rfl, b7⟩
          have hJ7 := hJB _ _ hJ6 b7
          have hX7 := hXB _ _ hX6 b7
          have hK7 := hKB _ _ _ _ hK6 b7
          have n7 := n6.behind b7
          gi_wp2
          refine bodyPost_ret (results_none rfl _ _ _) rfl ?_
          exact ⟨⟨_, rfl⟩, .inl ⟨.inr ⟨_, G, hK7, n7, nwt_root hGz HGE.out, H6.out⟩, hJ7, hX7⟩⟩
        · have hlt : nwt X G < G := by omega
          have hc : Hid (cmpN (nwt X G) G = -1) := Lib.hid (cmpN_lt hlt)
          have HLT := Lib.hid hlt
          clear hge hlt
          gi_wp2_with fail
          refine ⟨trivial, ?_⟩
          gi_at_call 15
          refine (callsIn_wide.2 (cmp_is (nv'.num H1.out) (n6.num H7.out) (by omega) (by omega) hc.out)).mono ?_
          rintro e W7 ⟨rfl, b7⟩
          have hJ7 := hJB _ _ hJ6 b7
          have hX7 := hXB _ _ hX6 b7
          have nv7 := nv'.behind b7
          gi_wp2
          go_roundw
          case rel => exact ⟨nwt X G, nv7, H5.out, H4.out, H1.out, hJ7, hX7⟩
          case measure =>
            show numAt W7 v' < numAt wr _
            rw [nv7.numAt, nG.numAt]
            exact HLT.out
      · gi_wp2
        go_end0
        exact ⟨⟨_, rfl⟩, .inr hZ3⟩
end Go.Proofs.YtppbifijgkcpjaaDoor
