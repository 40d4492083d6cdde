/- natdiv.DivMod over numbers. -/
import Derived.Test.YtppbifijgkcpjaaDoorDivMod
namespace Go.Proofs.YtppbifijgkcpjaaDoor
open Go.RowKit Go.Shelf

theorem New.from_ {n n' : Nat} {W : World} {v : Value} {xs : List Nat} (h : New n W v xs) (hn : n' ≤ n) : New n' W v xs := by
  obtain ⟨S, h1, h2, h3⟩ := h
  exact ⟨S, h1, h2, h3.imp id fun h => Nat.le_trans hn h⟩
theorem new_nil {n b : Nat} {W : World} (h : b < W.heap.size) : New n W (.slice none 0 0) [] := ⟨b, .inl ⟨⟨_, _, rfl⟩, rfl⟩, h, .inl rfl⟩
set_option maxHeartbeats 1000000 in
theorem divmod_less (ba bb : Nat) (va vb : Value) (xs ys al bl : List Nat) (hxs : xs.length ≤ 4398046511104) (hys : ys.length ≤ 4398046511104) (hx : Low 18446744073709551616 xs) (hy : Low 18446744073709551616 ys) (ha : cutz xs = al) (hb : cutz ys = bl) (hb0 : 0 < bl.length) (hab : al.length < bl.length)
    (w : World) (hba : ba < w.heap.size) (hbb : bb < w.heap.size) (hIa : RdAt ba w va xs) (hIb : RdAt bb w vb ys) :
    Calls Tryd.prog 8 #[va, vb] w fun e W' => ∃ q r, e = .returned (.tuple #[q, r, .int .i64 0]) ∧ New w.heap.size W' q [] ∧ New w.heap.size W' r (digs 18446744073709551616 (val 18446744073709551616 al)) ∧ Below w.heap.size w W' := by
  have hla : al.length ≤ 4398046511104 := by rw [← ha]; exact Nat.le_trans (cutz_length xs) hxs
  have hxa : Low 18446744073709551616 al := by rw [← ha]; exact cutz_low hx
  have hta := ntrim_calls ba va xs (by omega) hx w hba hIa
  have htb := fun (u : World) (h : bb < u.heap.size) (hr : RdAt bb u vb ys) => ntrim_calls bb vb ys (by omega) hy u h hr
  rw [ha] at hta
  rw [hb] at htb
  have HTA := Lib.hid hta
  have HTB := Lib.hid htb
  have hd0 : ((bl.length : Int) == 0) = false := beq_eq_false_iff_ne.2 (by omega)
  have hd1 : decide (al.length < bl.length) = true := decide_eq_true (by omega)
  obtain ⟨aa, ca, rfl, _, _⟩ := hIa.slice
  obtain ⟨ab, cb, rfl, _, _⟩ := hIb.slice
  clear hta htb ha hb
  go_enter Tryd.func8, Tryd.ntmps8
  go_wp2_with fail
  refine HTA.out.mono ?_
  rintro e w1 ⟨v1, rfl, hr1, hb1⟩
  have hIb1 := hIb.kept (hb1.block bb hbb)
  have hbb1 := Nat.lt_of_lt_of_le hbb hb1.size
  go_wp2_with fail
  refine (HTB.out w1 hbb1 hIb1).mono ?_
  rintro e w2 ⟨v2, rfl, hr2, hb2⟩
  have hba1 := Nat.lt_of_lt_of_le hba hb1.size
  have hr1 := hr1.kept (hb2.block ba hba1)
  have hba2 := Nat.lt_of_lt_of_le hba1 hb2.size
  have B2 := below_both hb1 hb2
  have hN : Num w2 v1 (val 18446744073709551616 al) 4398046511104 := ⟨al, ⟨ba, hba2, hr1⟩, hxa, rfl, hla⟩
  obtain ⟨a1, c1, rfl, _, _⟩ := hr1.slice
  obtain ⟨a2, c2, rfl, _, _⟩ := hr2.slice
  clear hr1 hr2 HTA HTB hIa hIb hIb1
  go_wp2_with fail
  refine (norm_num hN (by omega)).mono ?_
  rintro e w3 ⟨v3, rfl, _, n3, b3⟩
  go_wp2_with fail
  go_ret3
  exact ⟨_, _, rfl, new_nil (Nat.lt_of_lt_of_le hba2 b3.size), New.from_ n3 B2.size, below_both B2 b3⟩
set_option maxHeartbeats 1000000 in
theorem divmod_zero {w : World} {va vb : Value} {X i j : Nat} (hA : Num w va X i) (hB : Num w vb 0 j) (hi : i ≤ 4398046511104) (hj : j ≤ 4398046511104) :
    Calls Tryd.prog 8 #[va, vb] w fun e W' => e = .returned (.tuple #[.slice none 0 0, .slice none 0 0, .int .i64 7]) ∧ Below w.heap.size w W' := by
  obtain ⟨xs, ⟨ba, hba, hIa⟩, hx, _, hxl⟩ := hA
  obtain ⟨ys, ⟨bb, hbb, hIb⟩, hy, hy0, hyl⟩ := hB
  have hb : cutz ys = [] := by rw [cutz_eq_digs (by decide) hy, hy0, digs_zero]
  have hta := ntrim_calls ba va xs (by omega) hx w hba hIa
  have htb := fun (u : World) (h : bb < u.heap.size) (hr : RdAt bb u vb ys) => ntrim_calls bb vb ys (by omega) hy u h hr
  rw [hb] at htb
  generalize cutz xs = al at hta
  have HTA := Lib.hid hta
  have HTB := Lib.hid htb
  obtain ⟨aa, ca, rfl, _, _⟩ := hIa.slice
  obtain ⟨ab, cb, rfl, _, _⟩ := hIb.slice
  clear hta htb hb hy0
  go_enter Tryd.func8, Tryd.ntmps8
  go_wp2_with fail
  refine HTA.out.mono ?_
  rintro e w1 ⟨v1, rfl, hr1, hb1⟩
  have hIb1 := hIb.kept (hb1.block bb hbb)
  have hbb1 := Nat.lt_of_lt_of_le hbb hb1.size
  go_wp2_with fail
  refine (HTB.out w1 hbb1 hIb1).mono ?_
  rintro e w2 ⟨v2, rfl, hr2, hb2⟩
  have B2 := below_both hb1 hb2
  obtain ⟨a1, c1, rfl, _, _⟩ := hr1.slice
  obtain ⟨a2, c2, rfl, _, _⟩ := hr2.slice
  simp only [List.length_nil]
  clear hr1 hr2 HTA HTB hIa hIb hIb1
  go_wp2
  go_ret3
  exact ⟨rfl, B2⟩
theorem divmod_num {w : World} {va vb : Value} {X Y i j : Nat} (hA : Num w va X i) (hB : Num w vb Y j) (hi : i ≤ 4398046511104) (hj : j ≤ 4398046511104) (hY : Y ≠ 0) :
    Calls Tryd.prog 8 #[va, vb] w fun e W' => ∃ q r, e = .returned (.tuple #[q, r, .int .i64 0]) ∧ New w.heap.size W' q (digs 18446744073709551616 (X / Y)) ∧ New w.heap.size W' r (digs 18446744073709551616 (X % Y)) ∧ Below w.heap.size w W' := by
  obtain ⟨xs, ⟨ba, hba, hIa⟩, hx, rfl, hxl⟩ := hA
  obtain ⟨ys, ⟨bb, hbb, hIb⟩, hy, rfl, hyl⟩ := hB
  have hb0 : 0 < (cutz ys).length := by
    rw [List.length_pos_iff]
    intro h
    have := val_cutz 18446744073709551616 ys
    rw [h] at this
    exact hY this.symm
  rw [← val_cutz 18446744073709551616 xs, ← val_cutz 18446744073709551616 ys]
  by_cases hab : (cutz ys).length ≤ (cutz xs).length
  · exact callsIn_wide.1 (divmod_in 9 (Nat.le_refl _) ba bb va vb xs ys _ _ (by omega) (by omega) hx hy rfl rfl hb0 hab w hba hbb hIa hIb)
  · have hlt := low_length_lt (B := 18446744073709551616) (by decide) (cutz_low hx) (cutz_cutz ys) (show (cutz xs).length < (cutz ys).length by omega)
    rw [Nat.div_eq_of_lt hlt, Nat.mod_eq_of_lt hlt, digs_zero]
    exact divmod_less ba bb va vb xs ys _ _ (by omega) (by omega) hx hy rfl rfl hb0 (by omega) w hba hbb hIa hIb
end Go.Proofs.YtppbifijgkcpjaaDoor

/- nat.Add, whose answer may be written; half of it; what Newton's rule reckons. -/
namespace Go.Proofs.YtppbifijgkcpjaaDoor
open Go.RowKit Go.Shelf

theorem num_word (W : World) (x : Nat) (hx : x < 18446744073709551616) : Num (W.alloc (.cells #[.int .u64 x] 34)) (.slice (some ⟨W.heap.size, 0, none⟩) 1 1) x 1 :=
  ⟨[x], ⟨W.heap.size, by simp, (Row.new W .u64 34 [x]).rd 1 (by simp)⟩, by intro y hy; simp at hy; omega, by simp [val], by simp⟩
theorem addw_num {w : World} {va vb : Value} {M N i j : Nat} (hA : Num w va M i) (hB : Num w vb N j) (hi : i ≤ 17592186044416) (hj : j ≤ 17592186044416) (h0 : M + N ≠ 0) :
    Calls Tryd.prog 43 #[va, vb] w fun e W' => ∃ S off cap, e = .returned (.slice (some ⟨S, off, none⟩) (digs 18446744073709551616 (M + N)).length cap) ∧ (digs 18446744073709551616 (M + N)).length ≤ cap ∧ Seg W' S off (digs 18446744073709551616 (M + N)) ∧ w.heap.size ≤ S ∧ Below w.heap.size w W' := by
  obtain ⟨xs, ⟨ba, hba, hIa⟩, hx, rfl, hxl⟩ := hA
  obtain ⟨ys, ⟨bb, hbb, hIb⟩, hy, rfl, hyl⟩ := hB
  refine (callsIn_wide.1 (add_in 8 (Nat.le_refl _) ba bb va vb xs ys (by omega) (by omega) hx hy w hba hbb hIa hIb)).mono ?_
  rintro e W' ⟨v, S, rfl, h2, h3, h4, h5, zs, h6⟩
  have hpos : 0 < (digs 18446744073709551616 (val 18446744073709551616 xs + val 18446744073709551616 ys)).length := by rw [digs_pos (by decide) h0]; simp
  obtain ⟨off, cap, rfl, hc, hs⟩ := Wb.seg (W := W') (S := S) ⟨_, h6⟩ h4 hpos
  exact ⟨S, off, cap, rfl, hc, hs, h2, h5⟩
theorem half_num {w : World} {S off cap : Nat} {V n0 : Nat} (hS : Seg w S off (digs 18446744073709551616 V)) (hc : (digs 18446744073709551616 V).length ≤ cap) (hl : (digs 18446744073709551616 V).length ≤ 17592186044416) (hn : n0 ≤ S) :
    Calls Tryd.prog 27 #[.slice (some ⟨S, off, none⟩) (digs 18446744073709551616 V).length cap, .int .i64 1] w fun e W' => ∃ v, e = .returned v ∧ New n0 W' v (digs 18446744073709551616 (V / 2)) ∧ Off S w W' := by
  have h := lower_calls S off cap (digs 18446744073709551616 V) 1 hl hc (by decide) (digs_low (by decide) V) w hS
  rw [val_digs (by decide)] at h
  refine h.mono ?_
  rintro e W' ⟨v, he, hr, hw, hO⟩
  exact ⟨v, he, ⟨S, hr, hw.lt, .inr hn⟩, hO⟩
/-- Newton's rule: a guess is not below the root; one that is followed by one not less is the root -/
def nwt (X G : Nat) : Nat := (G + X / G) / 2
theorem nwt_above {X G : Nat} (hG : G ≠ 0) : X < (nwt X G + 1) * (nwt X G + 1) := by
  have h1 : X < (X / G + 1) * G := by
    have := Nat.div_add_mod X G
    have := Nat.mod_lt X (Nat.pos_of_ne_zero hG)
    rw [Nat.add_mul, Nat.one_mul, Nat.mul_comm]
    omega
  have h2 : G + (X / G + 1) ≤ 2 * (nwt X G + 1) := by unfold nwt; omega
  generalize nwt X G + 1 = n at *
  generalize X / G + 1 = q at *
  have h3 : (G + q) * (G + q) ≤ (2 * n) * (2 * n) := Nat.mul_le_mul h2 h2
  have h4 : 4 * (q * G) ≤ (G + q) * (G + q) := by
    rcases Nat.le_total G q with h | h
    · obtain ⟨d, rfl⟩ := Nat.exists_eq_add_of_le h
      simp only [Nat.add_mul, Nat.mul_add]
      rw [Nat.mul_comm d G]
      have := Nat.zero_le (d * d)
      omega
    · obtain ⟨d, rfl⟩ := Nat.exists_eq_add_of_le h
      simp only [Nat.add_mul, Nat.mul_add]
      rw [Nat.mul_comm d q]
      have := Nat.zero_le (d * d)
      omega
  have h5 : (2 * n) * (2 * n) = 4 * (n * n) := by rw [Nat.mul_assoc, Nat.mul_left_comm n, ← Nat.mul_assoc]
  omega
theorem nwt_pos {X G : Nat} (hX : X ≠ 0) (hG : G ≠ 0) : nwt X G ≠ 0 := by
  intro h
  have := nwt_above (X := X) hG
  rw [h] at this
  omega
theorem nwt_root {X G : Nat} (hG : G ≠ 0) (h : G ≤ nwt X G) : G * G ≤ X := by
  have h1 : G ≤ X / G := by unfold nwt at h; omega
  exact Nat.le_trans (Nat.mul_le_mul_right G h1) (Nat.div_mul_le_self X G)
theorem guess_first (X : Nat) : X < (2 ^ ((nbits X + 1) / 2) + 1) * (2 ^ ((nbits X + 1) / 2) + 1) := by
  have h1 := nbits_lt X
  have h2 : 2 ^ nbits X ≤ 2 ^ ((nbits X + 1) / 2) * 2 ^ ((nbits X + 1) / 2) := by
    rw [← Nat.pow_add]
    exact Nat.pow_le_pow_right (by decide) (by omega)
  generalize 2 ^ ((nbits X + 1) / 2) = g at *
  rw [Nat.add_mul, Nat.mul_add]
  omega
/-- a root is one alone -/
theorem root_one {X r s : Nat} (h1 : r * r ≤ X) (h2 : X < (r + 1) * (r + 1)) (h3 : s * s ≤ X) (h4 : X < (s + 1) * (s + 1)) : r = s := by
  rcases Nat.lt_trichotomy r s with h | h | h
  · have := Nat.mul_le_mul (show r + 1 ≤ s from h) (show r + 1 ≤ s from h); omega
  · exact h
  · have := Nat.mul_le_mul (show s + 1 ≤ r from h) (show s + 1 ≤ r from h); omega
end Go.Proofs.YtppbifijgkcpjaaDoor
