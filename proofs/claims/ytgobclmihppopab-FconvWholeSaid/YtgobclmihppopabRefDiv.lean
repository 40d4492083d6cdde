/- vernierref01.Div: the document's own division, bit by bit. -/
import Derived.Test.YtgobclmihppopabRefShl
import Derived.Lib.Hide
namespace Go.Proofs.Ytgobclmihppopab
open Go.RowKit Go.Shelf

theorem lim_digs {B : Nat} (hB : 1 < B) (n j : Nat) : lim (digs B n) j = n / B ^ j % B := by
  induction j generalizing n with
  | zero =>
    by_cases hn : n = 0
    · subst hn; rw [digs_zero]; simp [lim]
    · rw [digs_pos hB hn, lim_cons_zero]; simp
  | succ j ih =>
    by_cases hn : n = 0
    · subst hn; rw [digs_zero]; simp [lim]
    · rw [digs_pos hB hn, lim_cons_succ, ih, Nat.div_div_eq_div_mul, Nat.pow_succ, Nat.mul_comm B]
theorem bit_of (A i : Nat) : lim (digs 65536 A) (i / 16) / 2 ^ (i % 16) % 2 = A / 2 ^ i % 2 := by
  rw [lim_digs (by decide)]
  have h1 : 2 ^ i = 65536 ^ (i / 16) * 2 ^ (i % 16) := by
    rw [show 65536 = 2 ^ 16 from rfl, ← Nat.pow_mul, ← Nat.pow_add, Nat.div_add_mod]
  rw [h1, ← Nat.div_div_eq_div_mul]
  generalize A / 65536 ^ (i / 16) = d
  have hs : i % 16 < 16 := Nat.mod_lt _ (by decide)
  generalize i % 16 = s at *
  have h2 : 65536 = 2 ^ s * (2 * 2 ^ (15 - s)) := by
    rw [← Nat.pow_succ', ← Nat.pow_add, show s + (15 - s).succ = 16 by omega]
  rw [h2, Nat.mod_mul_right_div_self, Nat.mod_mul_right_mod]
theorem div_bit {A B i : Nat} (hB : 0 < B) :
    A / 2 ^ i / B = (if B ≤ 2 * (A / 2 ^ (i + 1) % B) + A / 2 ^ i % 2 then 2 * (A / 2 ^ (i + 1) / B) + 1 else 2 * (A / 2 ^ (i + 1) / B)) ∧
    A / 2 ^ i % B = (if B ≤ 2 * (A / 2 ^ (i + 1) % B) + A / 2 ^ i % 2 then 2 * (A / 2 ^ (i + 1) % B) + A / 2 ^ i % 2 - B else 2 * (A / 2 ^ (i + 1) % B) + A / 2 ^ i % 2) := by
  have e : A / 2 ^ (i + 1) = A / 2 ^ i / 2 := by rw [Nat.div_div_eq_div_mul, ← Nat.pow_succ]
  rw [e]
  generalize A / 2 ^ i = d
  have h1 := Nat.div_add_mod d 2
  have h2 := Nat.div_add_mod (d / 2) B
  have h3 := Nat.mod_lt (d / 2) hB
  have h4 := Nat.mod_lt d (show 0 < 2 by decide)
  generalize d / 2 / B = q at *
  generalize d / 2 % B = r at *
  generalize d % 2 = p at *
  have hd : d = B * (2 * q) + (2 * r + p) := by rw [Nat.mul_left_comm]; omega
  split
  · have hd2 : d = B * (2 * q + 1) + (2 * r + p - B) := by rw [Nat.mul_add]; omega
    have hl : 2 * r + p - B < B := by omega
    refine ⟨?_, ?_⟩
    · rw [hd2, Nat.mul_add_div hB, Nat.div_eq_of_lt hl] <;> try rfl
    · rw [hd2, Nat.mul_add_mod, Nat.mod_eq_of_lt hl]
  · have hl : 2 * r + p < B := by omega
    refine ⟨?_, ?_⟩
    · rw [hd, Nat.mul_add_div hB, Nat.div_eq_of_lt hl] <;> try rfl
    · rw [hd, Nat.mul_add_mod, Nat.mod_eq_of_lt hl]
theorem nbits16 {A k : Nat} (h : A < 65536 ^ k) : nbits A ≤ 16 * k := nbits_le (by rwa [show 65536 = 2 ^ 16 from rfl, ← Nat.pow_mul] at h)
theorem RN.re {w : World} {v : Value} {N k k' : Nat} (h : RN w v N k) (hk : N < 65536 ^ k') : RN w v N k' := ⟨h.1, hk⟩
section
variable {va vb : Value} {M N i j k : Nat} {w : World}
theorem rshl1 (hA : RN w va M i) (hi : i ≤ 4398046511103) (hk : 2 * M < 65536 ^ k) :
    Calls Try.prog 44 #[va, .int .i64 1] w fun e W' => ∃ v, e = .returned v ∧ RN W' v (2 * M) k ∧ Below w.heap.size w W' :=
  (rshl_num (m := 1) hA hi (by decide)).mono fun e W' ⟨v, he, hr, hb⟩ => ⟨v, he, RN.re (by rw [Nat.mul_comm]; exact hr) hk, hb⟩
theorem raddk (hA : RN w va M i) (hB : RN w vb N j) (hi : i ≤ 4398046511104) (hj : j ≤ 4398046511104) (hk : M + N < 65536 ^ k) :
    Calls Try.prog 75 #[va, vb] w fun e W' => ∃ v, e = .returned v ∧ RN W' v (M + N) k ∧ Below w.heap.size w W' :=
  (radd_num hA hB hi hj).mono fun _ _ ⟨v, he, hr, hb⟩ => ⟨v, he, hr.re hk, hb⟩
theorem rsubk (hA : RN w va M i) (hB : RN w vb N j) (hi : i ≤ 4398046511104) (hj : j ≤ 4398046511104) (hle : N ≤ M) (hk : M - N < 65536 ^ k) :
    Calls Try.prog 74 #[va, vb] w fun e W' => ∃ v, e = .returned v ∧ RN W' v (M - N) k ∧ Below w.heap.size w W' :=
  (rsub_num hA hB hi hj).mono fun e W' ⟨v, he, hr, hb⟩ => ⟨v, he, RN.re (by rw [← dist_ge hle]; exact hr) hk, hb⟩
theorem rcmpc {c : Int} (hA : RN w va M i) (hB : RN w vb N j) (hi : i ≤ 4398046511104) (hj : j ≤ 4398046511104) (h : cmpN M N = c) :
    Calls Try.prog 43 #[va, vb] w fun e W' => e = .returned (.int .i64 c) ∧ Below w.heap.size w W' := by
  subst h
  exact rcmp_num hA hB hi hj
theorem rcut1 (W : World) (p : Nat) (h : p < 65536) :
    Calls Try.prog 70 #[.slice (some ⟨W.heap.size, 0, none⟩) 1 1] (W.alloc (.cells #[.int .i64 (p : Int)] 3)) fun e W' => ∃ v, e = .returned v ∧ RN W' v p 1 ∧ Below (W.alloc (.cells #[.int .i64 (p : Int)] 3)).heap.size (W.alloc (.cells #[.int .i64 (p : Int)] 3)) W' := by
  have hI := (Row.new W .i64 3 [p]).iat 1 (by simp)
  refine (cut_calls W.heap.size _ [p] (by simp) _ hI).mono ?_
  rintro e W' ⟨v, he, hv, rfl⟩
  have hl : Low 65536 [p] := by intro x hx; simp at hx; omega
  rw [cutz_eq_digs (by decide) hl] at hv
  have e1 : val 65536 [p] = p := by simp [val]
  rw [e1] at hv
  exact ⟨v, he, ⟨⟨W.heap.size, by simp, hv⟩, by simpa using h⟩, Below.refl _ _⟩
end
end Go.Proofs.Ytgobclmihppopab

/- vernierref01.Few: the document's own division where the quotient is small. -/
namespace Go.Proofs.Ytgobclmihppopab
open Go.RowKit Go.Shelf

theorem few_step {A D : Nat} (hD : 0 < D) :
    A / D = (if D ≤ A % (2 * D) then 2 * (A / (2 * D)) + 1 else 2 * (A / (2 * D))) ∧ A % D = (if D ≤ A % (2 * D) then A % (2 * D) - D else A % (2 * D)) := by
  have h2 : 0 < 2 * D := by omega
  have h1 := Nat.div_add_mod A (2 * D)
  have h3 := Nat.mod_lt A h2
  generalize A / (2 * D) = q at *
  generalize A % (2 * D) = r at *
  rw [show 2 * D * q = D * (2 * q) by rw [Nat.mul_comm 2 D, Nat.mul_assoc]] at h1
  split
  · have e : A = D * (2 * q + 1) + (r - D) := by rw [Nat.mul_add]; omega
    have hl : r - D < D := by omega
    refine ⟨?_, ?_⟩
    · rw [e, Nat.mul_add_div hD, Nat.div_eq_of_lt hl] <;> try rfl
    · rw [e, Nat.mul_add_mod, Nat.mod_eq_of_lt hl]
  · have hl : r < D := by omega
    refine ⟨?_, ?_⟩
    · rw [← h1, Nat.mul_add_div hD, Nat.div_eq_of_lt hl] <;> try rfl
    · rw [← h1, Nat.mul_add_mod, Nat.mod_eq_of_lt hl]
theorem few_top {A Y : Nat} (h0 : 0 < Y) (h : A / Y < 1152921504606846976) : A < Y * 2 ^ 60 := by
  have := (Nat.div_lt_iff_lt_mul h0).1 h
  rw [Nat.mul_comm]; simpa using this
set_option maxRecDepth 100000 in
set_option maxHeartbeats 8000000 in
theorem rfew_num {va vb : Value} {A Y i j : Nat} {w : World} (hA : RN w va A i) (hY : RN w vb Y j) (hi : i ≤ 4398046511103) (hj : j ≤ 4398046511000) (hY0 : 0 < Y) (hq : A / Y < 1152921504606846976) :
    Calls Try.prog 67 #[va, vb] w fun e W' => ∃ r, e = .returned (.tuple #[.int .u64 ((A / Y : Nat) : Int), r]) ∧ RN W' r (A % Y) i ∧ Below w.heap.size w W' := by
  have hsz0 : 0 < w.heap.size := by obtain ⟨⟨S, hS, _⟩, _⟩ := hA; omega
  have HA := Lib.hid hA.2
  have HQ := Lib.hid hq
  have hD : ∀ k, 0 < Y * 2 ^ k := fun k => Nat.mul_pos hY0 (Nat.pow_pos (by decide))
  have hS0 : Hid (A / (Y * 2 ^ 60) = 0 ∧ A % (Y * 2 ^ 60) = A) := Lib.hid ⟨Nat.div_eq_of_lt (few_top hY0 hq), Nat.mod_eq_of_lt (few_top hY0 hq)⟩
  have HD := Lib.hid hD
  have hst : ∀ z, A / (Y * 2 ^ z) = (if Y * 2 ^ z ≤ A % (Y * 2 ^ (z + 1)) then 2 * (A / (Y * 2 ^ (z + 1))) + 1 else 2 * (A / (Y * 2 ^ (z + 1)))) ∧ A % (Y * 2 ^ z) = (if Y * 2 ^ z ≤ A % (Y * 2 ^ (z + 1)) then A % (Y * 2 ^ (z + 1)) - Y * 2 ^ z else A % (Y * 2 ^ (z + 1))) := fun z => by
    have := few_step (A := A) (hD z)
    rwa [show 2 * (Y * 2 ^ z) = Y * 2 ^ (z + 1) by rw [Nat.pow_succ, Nat.mul_comm 2 (Y * 2 ^ z), Nat.mul_assoc]] at this
  have HST := Lib.hid hst
  have hle : ∀ k, A / (Y * 2 ^ k) ≤ A / Y := fun k => Nat.div_le_div_left (Nat.le_mul_of_pos_right _ (Nat.pow_pos (by decide))) hY0
  have HLE := Lib.hid hle
  clear hD hst hle hq
  obtain ⟨ya, yc, rfl, hyc⟩ := hY.slice
  obtain ⟨xa, xc, rfl, hxc⟩ := hA.slice
  clear hyc hxc
  go_enter Try.func67, Try.ntmps67
  go_wp2
  go_loopw [0, 6, 7] (fun a q r wr => ∃ (k n : Nat) (z : Int), r = .int .i64 z ∧ z + 1 = k ∧ k ≤ 60 ∧ q = .int .u64 (n : Int) ∧ Hid (n = A / (Y * 2 ^ k)) ∧ RN wr a (A % (Y * 2 ^ k)) i ∧ Below w.heap.size w wr) (fun _ _ r _ => (intOf r + 1).toNat)
  case atStart =>
    exact ⟨60, 0, _, rfl, by omega, Nat.le_refl _, rfl, Lib.hid hS0.out.1.symm, by rw [hS0.out.2]; exact hA, Below.refl _ _⟩
  case round =>
    obtain ⟨k, n, z, rfl, hz, hk, rfl, hn, ra, hB⟩ := hrel
    by_cases hk0 : k = 0
    · subst hk0
      obtain rfl : z = -1 := by omega
      have hn' := hn.out
      rw [Nat.pow_zero, Nat.mul_one] at hn' ra
      subst hn'
      go_wp2
      go_ret2
      exact ⟨_, rfl, ra, hB⟩
    · obtain ⟨z', hz'⟩ : ∃ z', k = z' + 1 := ⟨k - 1, by omega⟩
      subst hz'
      obtain rfl : z = (z' : Int) := by omega
      have rb := hY.behind hB
      have hst := HST.out z'
      have hle1 := HLE.out z'
      have hle2 := HLE.out (z' + 1)
      have hq := HQ.out
      have hAi := HA.out
      have hRA : A % (Y * 2 ^ (z' + 1)) ≤ A := Nat.mod_le _ _
      obtain ⟨D, hDe⟩ : ∃ D, D = Y * 2 ^ z' := ⟨_, rfl⟩
      obtain ⟨R, hRe⟩ : ∃ R, R = A % (Y * 2 ^ (z' + 1)) := ⟨_, rfl⟩
      rw [← hn.out] at hst hle2
      rw [← hRe] at ra hst hRA
      rw [← hDe] at hst hle1
      have hsh := rshl_num (m := z') rb (by omega) (by omega)
      rw [← hDe] at hsh
      have hn60 : n < 1152921504606846976 := by omega
      have HDE : Hid (D = Y * 2 ^ z') := Lib.hid hDe
      have HRi : Hid (R < 65536 ^ i) := Lib.hid (Nat.lt_of_le_of_lt hRA hAi)
      clear hle2 hRe hDe hAi hRA
      by_cases hge : D ≤ R
      · rw [if_pos hge, if_pos hge] at hst
        obtain ⟨c, HC, hc0⟩ : ∃ c, Hid (cmpN R D = c) ∧ 0 ≤ c := by
          refine ⟨_, Lib.hid rfl, ?_⟩
          unfold cmpN
          rw [if_neg (by omega)]
          split <;> omega
        have hn60' : 2 * n + 1 < 1152921504606846976 := by omega
        have HGE := Lib.hid hge
        have HK : Hid (R - D < 65536 ^ i) := Lib.hid (Nat.lt_of_le_of_lt (Nat.sub_le _ _) HRi.out)
        have EQ : Hid (2 * n + 1 = A / (Y * 2 ^ z')) := Lib.hid (by rw [← HDE.out]; exact hst.1.symm)
        have ER : Hid (R - D = A % (Y * 2 ^ z')) := Lib.hid (by rw [← HDE.out]; exact hst.2.symm)
        clear hst hle1 hge hq
        go_wp2_with fail
        refine hsh.mono ?_
        rintro e w1 ⟨v1, rfl, r1, b1⟩
        replace ra := ra.behind b1
        have B1 := below_both hB b1
        clear b1 hsh
        go_wp2_with fail
        refine (rcmpc ra r1 (by omega) (by omega) HC.out).mono ?_
        rintro e w2 ⟨rfl, b2⟩
        replace ra := ra.behind b2
        replace r1 := r1.behind b2
        replace B1 := below_both B1 b2
        clear b2
        go_wp2_with fail
        refine (rsubk (k := i) ra r1 (by omega) (by omega) HGE.out HK.out).mono ?_
        rintro e w3 ⟨v3, rfl, r3, b3⟩
        replace B1 := below_both B1 b3
        clear b3
        go_wp2
        go_roundw
        case rel => exact ⟨z', 2 * n + 1, _, rfl, by omega, by omega, by simp, Lib.hid EQ.out, by rw [← ER.out]; exact r3, B1⟩
        case measure => simp [intOf]
      · rw [if_neg hge, if_neg hge] at hst
        have HC : Hid (cmpN R D = -1) := Lib.hid (cmpN_lt (by omega))
        have hn60' : 2 * n < 1152921504606846976 := by omega
        have EQ : Hid (2 * n = A / (Y * 2 ^ z')) := Lib.hid (by rw [← HDE.out]; exact hst.1.symm)
        have ER : Hid (R = A % (Y * 2 ^ z')) := Lib.hid (by rw [← HDE.out]; exact hst.2.symm)
        clear hst hle1 hge hq
        go_wp2_with fail
        refine hsh.mono ?_
        rintro e w1 ⟨v1, rfl, r1, b1⟩
        replace ra := ra.behind b1
        have B1 := below_both hB b1
        clear b1 hsh
        go_wp2_with fail
        refine (rcmpc ra r1 (by omega) (by omega) HC.out).mono ?_
        rintro e w2 ⟨rfl, b2⟩
        replace ra := ra.behind b2
        replace B1 := below_both B1 b2
        clear b2
        go_wp2
        go_roundw
        case rel => exact ⟨z', 2 * n, _, rfl, by omega, by omega, by simp, Lib.hid EQ.out, by rw [← ER.out]; exact ra, B1⟩
        case measure => simp [intOf]
end Go.Proofs.Ytgobclmihppopab
