/- What natdiv.takeDigit reckons: plain numbers. -/
import Derived.Test.YtfbnpdlkbabmfaaDoorTakeNum
import Derived.Test.YtfbnpdlkbabmfaaDoorDiv64
namespace Go.Proofs.YtfbnpdlkbabmfaaDoor
open Go.RowKit Go.Shelf

theorem lim_drop (s : List Nat) (off k : Nat) : lim (s.drop off) k = lim s (off + k) := by unfold lim; rw [List.getElem?_drop]
theorem part_drop (B : Nat) (s : List Nat) (off m : Nat) : part B s (off + m) = part B s off + B ^ off * part B (s.drop off) m := by
  induction m with
  | zero => simp [part]
  | succ m ih => rw [← Nat.add_assoc, part, ih, part, lim_drop, Nat.mul_add, Nat.pow_add, Nat.mul_assoc]; omega
theorem low_drop {B : Nat} {s : List Nat} (h : Low B s) (off : Nat) : Low B (s.drop off) := fun x hx => h x (List.mem_of_mem_drop hx)
theorem tk_below {Q s : List Nat} {x off : Nat} (k : Nat) {i : Nat} (h : i < off) : lim (tkS Q x off s k).1 i = lim s i := by
  induction k with
  | zero => rfl
  | succ k ih => rw [tkS]; simp only []; rw [lim_set, if_neg (by omega)]; exact ih
theorem pu_below {Q s : List Nat} {off : Nat} (k : Nat) {i : Nat} (h : i < off) : lim (puS Q off s k).1 i = lim s i := by
  induction k with
  | zero => rfl
  | succ k ih => rw [puS]; simp only []; rw [lim_set, if_neg (by omega)]; exact ih
/-- a stretch's number -/
abbrev pv (s : List Nat) (off m : Nat) : Nat := part 18446744073709551616 (s.drop off) m
theorem tk_pv {Q s : List Nat} {x off : Nat} (hQ : Low 18446744073709551616 Q) (hs : Low 18446744073709551616 s) (hx : x < 18446744073709551616) (k : Nat) (hk : off + k ≤ s.length) :
    pv (tkS Q x off s k).1 off k + x * part 18446744073709551616 Q k = pv s off k + 18446744073709551616 ^ k * (tkS Q x off s k).2 := by
  have h := tk_range hQ hs hx k hk
  rw [part_drop, part_drop 18446744073709551616 s, part_congr (ys := s) (fun i hi => tk_below k hi), Nat.pow_add, Nat.mul_assoc] at h
  have h2 : 18446744073709551616 ^ off * (pv (tkS Q x off s k).1 off k + x * part 18446744073709551616 Q k) = 18446744073709551616 ^ off * (pv s off k + 18446744073709551616 ^ k * (tkS Q x off s k).2) := by
    rw [Nat.mul_add, Nat.mul_add]
    simp only [pv]
    omega
  exact Nat.eq_of_mul_eq_mul_left (Nat.pow_pos (by decide)) h2
theorem pu_pv {Q s : List Nat} {off : Nat} (hQ : Low 18446744073709551616 Q) (hs : Low 18446744073709551616 s) (k : Nat) (hk : off + k ≤ s.length) :
    pv (puS Q off s k).1 off k + 18446744073709551616 ^ k * (puS Q off s k).2 = pv s off k + part 18446744073709551616 Q k := by
  have h := pu_range hQ hs k hk
  rw [part_drop, part_drop 18446744073709551616 s, part_congr (ys := s) (fun i hi => pu_below k hi), Nat.pow_add, Nat.mul_assoc] at h
  have h2 : 18446744073709551616 ^ off * (pv (puS Q off s k).1 off k + 18446744073709551616 ^ k * (puS Q off s k).2) = 18446744073709551616 ^ off * (pv s off k + part 18446744073709551616 Q k) := by
    rw [Nat.mul_add, Nat.mul_add]
    simp only [pv]
    omega
  exact Nat.eq_of_mul_eq_mul_left (Nat.pow_pos (by decide)) h2
theorem pv_set {s : List Nat} {off m v : Nat} (h : off + m < s.length) : pv (s.set (off + m) v) off (m + 1) = pv s off m + 18446744073709551616 ^ m * v := by
  show part _ _ _ = _
  rw [part, lim_drop, lim_set, if_pos ⟨rfl, h⟩]
  congr 1
  exact part_congr fun i hi => by rw [lim_drop, lim_drop, lim_set, if_neg (by omega)]
theorem pv_succ (s : List Nat) (off m : Nat) : pv s off (m + 1) = pv s off m + 18446744073709551616 ^ m * lim s (off + m) := by
  show part _ _ _ = _
  rw [part, lim_drop]
/-- while the digit X is tried, and bo is still borrowed -/
structure Td (s Q : List Nat) (off X bo : Nat) (t : List Nat) : Prop where
  len : t.length = s.length
  low : Low 18446744073709551616 t
  out : ∀ i, (i < off ∨ off + Q.length < i) → lim t i = lim s i
  bo1 : bo ≤ 1
  Xl : X < 18446744073709551616
  ge : pv s off (Q.length + 1) / val 18446744073709551616 Q ≤ X
  eqn : pv t off (Q.length + 1) + X * val 18446744073709551616 Q = pv s off (Q.length + 1) + 18446744073709551616 ^ (Q.length + 1) * bo
section
variable {s Q : List Nat} {off x : Nat} (hQ : Low 18446744073709551616 Q)
include hQ
theorem td_take (hs : Low 18446744073709551616 s) (hx : x < 18446744073709551616) (hoff : off + Q.length < s.length) (hge : pv s off (Q.length + 1) / val 18446744073709551616 Q ≤ x) :
    Td s Q off x (borrow64 (lim s (off + Q.length)) (tkS Q x off s Q.length).2 0) ((tkS Q x off s Q.length).1.set (off + Q.length) (sub64 (lim s (off + Q.length)) (tkS Q x off s Q.length).2 0)) := by
  have h := tk_pv (off := off) hQ hs hx Q.length (by omega)
  obtain ⟨f1, f2, f3, f4⟩ := tk_fine off hQ hs hx Q.length
  have hb := fun i hi => tk_below (Q := Q) (s := s) (x := x) (off := off) Q.length (i := i) hi
  have hh := lim_lt hs (by decide) (off + Q.length)
  rw [part_all] at h
  generalize tkS Q x off s Q.length = r at *
  refine ⟨by simp [f1], low_set f3 (Nat.mod_lt _ (by decide)), fun i hi => ?_, by unfold borrow64; split <;> omega, hx, hge, ?_⟩
  · rw [lim_set, if_neg (by omega)]
    rcases hi with hi | hi
    · exact hb i hi
    · exact f4 i (by omega)
  · rw [pv_set (s := r.1) (off := off) (m := Q.length) (by omega), pv_succ]
    generalize lim s (off + Q.length) = o at *
    have hd : sub64 o r.2 0 + r.2 = o + 18446744073709551616 * borrow64 o r.2 0 := by
      unfold sub64 borrow64
      split <;> omega
    have hm := congrArg (18446744073709551616 ^ Q.length * ·) hd
    simp only [Nat.mul_add] at hm
    have e : 18446744073709551616 ^ (Q.length + 1) * borrow64 o r.2 0 = 18446744073709551616 ^ Q.length * (18446744073709551616 * borrow64 o r.2 0) := by rw [Nat.pow_succ, Nat.mul_assoc]
    rw [e]
    omega
theorem td_put {t : List Nat} {X : Nat} (h : Td s Q off X 1 t) (hoff : off + Q.length < s.length) :
    1 ≤ X ∧ carry64 (lim t (off + Q.length)) (puS Q off t Q.length).2 0 ≤ 1 ∧ Td s Q off (X - 1) (1 - carry64 (lim t (off + Q.length)) (puS Q off t Q.length).2 0) ((puS Q off t Q.length).1.set (off + Q.length) (add64 (lim t (off + Q.length)) (puS Q off t Q.length).2 0)) := by
  obtain ⟨g1, g2, g3, g4, g5, g6, g7⟩ := h
  have h := pu_pv (off := off) hQ g2 Q.length (by omega)
  obtain ⟨f1, f2, f3, f4⟩ := pu_fine off hQ g2 Q.length
  have hb := fun i hi => pu_below (Q := Q) (s := t) (off := off) Q.length (i := i) hi
  have ho := lim_lt g2 (by decide) (off + Q.length)
  have hlt := part_lt (low_drop g2 off) (by decide) (Q.length + 1)
  have hgt : pv s off (Q.length + 1) < X * val 18446744073709551616 Q := by
    have : pv t off (Q.length + 1) < 18446744073709551616 ^ (Q.length + 1) := hlt
    omega
  have hdv : pv s off (Q.length + 1) / val 18446744073709551616 Q < X := by
    rcases Nat.eq_zero_or_pos (val 18446744073709551616 Q) with h0 | h0
    · rw [h0] at hgt; simp at hgt
    · exact (Nat.div_lt_iff_lt_mul h0).2 hgt
  rw [part_all] at h
  generalize puS Q off t Q.length = r at *
  have hc : carry64 (lim t (off + Q.length)) r.2 0 ≤ 1 := by unfold carry64; omega
  have hX1 : 1 ≤ X := Nat.lt_of_le_of_lt (Nat.zero_le _) hdv
  have hX2 := Nat.le_sub_one_of_lt hdv
  clear g6 hdv
  refine ⟨hX1, hc, by simp [f1, g1], low_set f3 (Nat.mod_lt _ (by decide)), fun i hi => ?_, by omega, by omega, hX2, ?_⟩
  · rw [lim_set, if_neg (by omega), ← g3 i hi]
    rcases hi with hi | hi
    · exact hb i hi
    · exact f4 i (by omega)
  · rw [pv_set (s := r.1) (off := off) (m := Q.length) (by omega)]
    rw [pv_succ] at g7
    generalize lim t (off + Q.length) = o at *
    have hd : add64 o r.2 0 + 18446744073709551616 * carry64 o r.2 0 = o + r.2 := by unfold add64 carry64; omega
    have hm := congrArg (18446744073709551616 ^ Q.length * ·) hd
    simp only [Nat.mul_add] at hm
    generalize carry64 o r.2 0 = c at *
    clear hX2
    obtain ⟨Y, rfl⟩ : ∃ Y, X = Y + 1 := ⟨X - 1, by omega⟩
    rw [Nat.add_sub_cancel]
    rw [Nat.add_mul] at g7
    have e : 18446744073709551616 ^ (Q.length + 1) = 18446744073709551616 ^ Q.length * 18446744073709551616 := Nat.pow_succ _ _
    rw [e, Nat.mul_assoc] at g7
    rw [e, Nat.mul_assoc]
    have hc2 : c = 0 ∨ c = 1 := by omega
    rcases hc2 with rfl | rfl
    · simp only [Nat.sub_zero, Nat.mul_one, Nat.mul_zero, Nat.add_zero, Nat.one_mul] at *
      omega
    · simp only [Nat.sub_self, Nat.mul_one, Nat.mul_zero, Nat.add_zero, Nat.one_mul] at *
      omega
end
theorem td_done {s Q t : List Nat} {off X : Nat} (h : Td s Q off X 0 t) (h0 : 0 < val 18446744073709551616 Q) : X = pv s off (Q.length + 1) / val 18446744073709551616 Q ∧ pv t off (Q.length + 1) = pv s off (Q.length + 1) % val 18446744073709551616 Q := by
  obtain ⟨_, _, _, _, _, g6, g7⟩ := h
  rw [Nat.mul_zero, Nat.add_zero] at g7
  have hle : X ≤ pv s off (Q.length + 1) / val 18446744073709551616 Q := by
    rw [Nat.le_div_iff_mul_le h0]
    omega
  have hX := Nat.le_antisymm hle g6
  refine ⟨hX, ?_⟩
  have hd := Nat.div_add_mod (pv s off (Q.length + 1)) (val 18446744073709551616 Q)
  rw [← hX, Nat.mul_comm] at hd
  omega
/-- the guess is not less than the digit -/
theorem gd_ge {s Q : List Nat} {off : Nat} (hQ : Low 18446744073709551616 Q) (hs : Low 18446744073709551616 s) (hQ0 : 0 < Q.length) (ht : 0 < lim Q (Q.length - 1)) (hV : pv s off (Q.length + 1) < val 18446744073709551616 Q * 18446744073709551616) :
    pv s off (Q.length + 1) / val 18446744073709551616 Q ≤ gd (lim s (off + Q.length)) (lim s (off + (Q.length - 1))) (lim Q (Q.length - 1)) ∧ gd (lim s (off + Q.length)) (lim s (off + (Q.length - 1))) (lim Q (Q.length - 1)) < 18446744073709551616 := by
  have hh := lim_lt hs (by decide) (off + Q.length)
  have hn := lim_lt hs (by decide) (off + (Q.length - 1))
  obtain ⟨m, hm⟩ : ∃ m, Q.length = m + 1 := ⟨Q.length - 1, by omega⟩
  have hQv : val 18446744073709551616 Q = part 18446744073709551616 Q m + 18446744073709551616 ^ m * lim Q m := by rw [← part_all, hm, part]
  have hVv : pv s off (Q.length + 1) = pv s off m + 18446744073709551616 ^ m * (lim s (off + m) + 18446744073709551616 * lim s (off + (m + 1))) := by
    rw [hm, pv_succ, pv_succ, Nat.mul_add, Nat.pow_succ, Nat.mul_assoc]
    omega
  have hlt : pv s off m < 18446744073709551616 ^ m := part_lt (low_drop hs off) (by decide) m
  have hp : 0 < 18446744073709551616 ^ m := Nat.pow_pos (by decide)
  have em : Q.length - 1 = m := by omega
  rw [em] at ht hn ⊢
  rw [hm] at hV hVv hh ⊢
  clear hm em
  generalize lim s (off + (m + 1)) = h at *
  generalize lim s (off + m) = n at *
  generalize lim Q m = t at *
  have hQ1 : 18446744073709551616 ^ m * t ≤ val 18446744073709551616 Q := by omega
  have hQp : 0 < val 18446744073709551616 Q := Nat.lt_of_lt_of_le (Nat.mul_pos hp ht) hQ1
  unfold gd
  split
  · exact ⟨by
      have := (Nat.div_lt_iff_lt_mul hQp).2 (show pv s off (m + 1 + 1) < 18446744073709551616 * val 18446744073709551616 Q by rw [Nat.mul_comm]; exact hV)
      omega, by decide⟩
  · rename_i hht
    refine ⟨?_, ?_⟩
    · rw [Nat.le_div_iff_mul_le ht]
      have h1 := Nat.div_mul_le_self (pv s off (m + 1 + 1)) (val 18446744073709551616 Q)
      generalize pv s off (m + 1 + 1) / val 18446744073709551616 Q = q at *
      have h2 : q * (18446744073709551616 ^ m * t) ≤ q * val 18446744073709551616 Q := Nat.mul_le_mul_left q hQ1
      have h3 : q * (18446744073709551616 ^ m * t) = 18446744073709551616 ^ m * (q * t) := Nat.mul_left_comm _ _ _
      have h4 : 18446744073709551616 ^ m * (q * t) < 18446744073709551616 ^ m * (h * 18446744073709551616 + n + 1) := by
        rw [Nat.mul_add _ _ 1, Nat.mul_comm h, Nat.add_comm _ n]
        omega
      have := Nat.lt_of_mul_lt_mul_left h4
      omega
    · rw [Nat.div_lt_iff_lt_mul ht]
      have := Nat.mul_le_mul_left 18446744073709551616 (show h + 1 ≤ t by omega)
      omega
end Go.Proofs.YtfbnpdlkbabmfaaDoor
