/- What a dyadic number is: a whole one, scaled. -/
import Derived.Test.YthipbonhkcjcfaaDoorDyNum
import Derived.Test.YthipbonhkcjcfaaDoorWholeTwo
namespace Go.Proofs.YthipbonhkcjcfaaDoor

theorem wn_mulr (s : Bool) (M t : Nat) : wn s (M * t) = wn s M * t := by cases s <;> simp [wn, Int.neg_mul]
theorem wn_eq {s s' : Bool} {M M' : Nat} (h : wn s M = wn s' M') : M = M' ∧ (M ≠ 0 → s = s') := by
  cases s <;> cases s' <;> simp only [wn] at h <;> simp at h ⊢ <;> omega
/-- a number times 2^K, a whole one where K is great enough -/
def dv (K : Nat) (s : Bool) (M : Nat) (E : Int) : Int := wn s M * ((2 ^ (E + K).toNat : Nat) : Int)
theorem dv_zero (K : Nat) (s : Bool) (E : Int) : dv K s 0 E = 0 := by cases s <;> simp [dv, wn]
theorem dv_shift (K : Nat) (s : Bool) (M t : Nat) {E : Int} (hE : -(K : Int) ≤ E) : dv K s (M * 2 ^ t) E = dv K s M (E + t) := by
  unfold dv
  rw [wn_mulr, Int.mul_assoc, ← Int.natCast_mul, ← Nat.pow_add]
  congr 4
  omega
theorem dv_tld (K : Nat) (s : Bool) (M : Nat) {E : Int} (hE : -(K : Int) ≤ E) {r : Dn} (h : tld s M E = r) : dv K r.s r.n r.x = dv K s M E ∧ -(K : Int) ≤ r.x ∧ (r = ⟨false, 0, 0⟩ ∨ r.n % 2 = 1) := by
  subst h
  by_cases h0 : M = 0
  · subst h0
    rw [tld_zero, dv_zero, dv_zero]
    exact ⟨rfl, by dsimp only; omega, .inl rfl⟩
  · rw [tld_pos s h0]
    dsimp only
    refine ⟨?_, by omega, .inr (tz_odd_part h0)⟩
    rw [← dv_shift K s _ _ hE, tz_back]
/-- a number that is told is told in one way -/
theorem dv_inj (K : Nat) {r r' : Dn} (h1 : -(K : Int) ≤ r.x) (h1' : -(K : Int) ≤ r'.x) (h2 : r = ⟨false, 0, 0⟩ ∨ r.n % 2 = 1) (h2' : r' = ⟨false, 0, 0⟩ ∨ r'.n % 2 = 1) (h : dv K r.s r.n r.x = dv K r'.s r'.n r'.x) : r = r' := by
  obtain ⟨s, n, x⟩ := r
  obtain ⟨s', n', x'⟩ := r'
  dsimp only at *
  unfold dv at h
  rw [← wn_mulr, ← wn_mulr] at h
  obtain ⟨e1, e2⟩ := wn_eq h
  have hp : ∀ p : Nat, 0 < 2 ^ p := fun p => Nat.pow_pos (by decide)
  rcases h2 with h2 | h2
  · cases h2
    rcases h2' with h2' | h2'
    · exact h2'.symm
    · rw [Nat.zero_mul] at e1
      have := Nat.mul_pos (show 0 < n' by omega) (hp (x' + K).toNat)
      omega
  · rcases h2' with h2' | h2'
    · cases h2'
      rw [Nat.zero_mul] at e1
      have := Nat.mul_pos (show 0 < n by omega) (hp (x + K).toNat)
      omega
    · have t1 := tz_mul (x + K).toNat (show n ≠ 0 by omega)
      have t2 := tz_mul (x' + K).toNat (show n' ≠ 0 by omega)
      rw [e1, t2, tz_odd h2, tz_odd h2'] at t1
      have hx : x = x' := by omega
      subst hx
      have hn : n = n' := Nat.eq_of_mul_eq_mul_right (hp _) e1
      subst hn
      rw [e2 (by have := Nat.mul_pos (show 0 < n by omega) (hp (x + K).toNat); omega)]
theorem dv_mul (K : Nat) (s : Bool) (M : Nat) (E : Int) (s' : Bool) (M' : Nat) (E' : Int) (h1 : -(K : Int) ≤ E) (h2 : -(K : Int) ≤ E') : dv (2 * K) (s != s') (M * M') (E + E') = dv K s M E * dv K s' M' E' := by
  unfold dv
  have e : (E + E' + ((2 * K : Nat) : Int)).toNat = (E + K).toNat + (E' + K).toNat := by omega
  rw [e, Nat.pow_add, Int.natCast_mul]
  have h : wn (s != s') (M * M') = wn s M * wn s' M' := by
    rw [← wn_mul]; cases s <;> cases s' <;> rfl
  rw [h]
  generalize ((2 ^ (E + ↑K).toNat : Nat) : Int) = p
  generalize ((2 ^ (E' + ↑K).toNat : Nat) : Int) = q
  generalize wn s M = y
  generalize wn s' M' = z
  rw [Int.mul_assoc, Int.mul_assoc]
  congr 1
  rw [Int.mul_left_comm]
theorem dv_lev (K : Nat) (s : Bool) (M : Nat) {E x : Int} (h1 : -(K : Int) ≤ x) (h2 : x ≤ E) : lev s M E x * ((2 ^ (x + K).toNat : Nat) : Int) = dv K s M E := by
  unfold lev dv
  rw [wn_mulr, Int.mul_assoc, ← Int.natCast_mul, ← Nat.pow_add]
  congr 4
  omega
theorem wn_self (z : Int) : wn (decide (z < 0)) z.natAbs = z := by
  unfold wn
  by_cases h : z < 0 <;> simp [h] <;> omega
theorem dv_sum (K : Nat) (s : Bool) (M : Nat) (E : Int) (s' : Bool) (M' : Nat) (E' : Int) (h1 : -(K : Int) ≤ E) (h2 : -(K : Int) ≤ E') {r : Dn} (h : sumD s M E s' M' E' = r) : dv K r.s r.n r.x = dv K s M E + dv K s' M' E' ∧ -(K : Int) ≤ r.x ∧ (r = ⟨false, 0, 0⟩ ∨ r.n % 2 = 1) := by
  have hx : -(K : Int) ≤ min E E' := by omega
  obtain ⟨e1, e2, e3⟩ := dv_tld K _ _ hx h
  refine ⟨?_, e2, e3⟩
  rw [e1, ← dv_lev K s M hx (by omega), ← dv_lev K s' M' hx (by omega), ← Int.add_mul]
  unfold dv
  rw [wn_self]
theorem dv_prod (K : Nat) (s : Bool) (M : Nat) (E : Int) (s' : Bool) (M' : Nat) (E' : Int) (h1 : -(K : Int) ≤ E) (h2 : -(K : Int) ≤ E') {r : Dn} (h : mulD s M E s' M' E' = r) : dv (2 * K) r.s r.n r.x = dv K s M E * dv K s' M' E' ∧ -((2 * K : Nat) : Int) ≤ r.x ∧ (r = ⟨false, 0, 0⟩ ∨ r.n % 2 = 1) := by
  obtain ⟨e1, e2, e3⟩ := dv_tld (2 * K) _ _ (by omega) h
  exact ⟨by rw [e1, dv_mul K s M E s' M' E' h1 h2], e2, e3⟩
theorem cmpZ_scale (x y : Int) {p : Nat} (hp : 0 < p) : cmpZ (x * p) (y * p) = cmpZ x y := by
  have hp' : (0 : Int) < p := by omega
  unfold cmpZ
  rcases Int.lt_trichotomy x y with h | h | h
  · rw [if_pos h, if_pos (Int.mul_lt_mul_of_pos_right h hp')]
  · subst h; simp
  · have h' := Int.mul_lt_mul_of_pos_right h hp'
    rw [if_neg (show ¬ x * (p : Int) < y * p by omega), if_pos h', if_neg (show ¬ x < y by omega), if_pos h]
theorem dv_cmp (K : Nat) (s : Bool) (M : Nat) (E : Int) (s' : Bool) (M' : Nat) (E' : Int) (h1 : -(K : Int) ≤ E) (h2 : -(K : Int) ≤ E') : cmpD s M E s' M' E' = cmpZ (dv K s M E) (dv K s' M' E') := by
  have hx : -(K : Int) ≤ min E E' := by omega
  rw [← dv_lev K s M hx (by omega), ← dv_lev K s' M' hx (by omega), cmpZ_scale _ _ (Nat.pow_pos (by decide))]
  rfl
/-- a number times a sum is the sum of the products -/
theorem ring_same {s s1 s2 : Bool} {M M1 M2 : Nat} {E E1 E2 : Int} {b p q l r : Dn} (K : Nat) (h0 : -(K : Int) ≤ E) (h1 : -(K : Int) ≤ E1) (h2 : -(K : Int) ≤ E2)
    (hs : sumD s1 M1 E1 s2 M2 E2 = b) (hl : mulD s M E b.s b.n b.x = l) (hp : mulD s M E s1 M1 E1 = p) (hq : mulD s M E s2 M2 E2 = q) (hr : sumD p.s p.n p.x q.s q.n q.x = r) : l = r := by
  obtain ⟨a1, a2, _⟩ := dv_sum K _ _ _ _ _ _ h1 h2 hs
  obtain ⟨b1, b2, b3⟩ := dv_prod K _ _ _ _ _ _ h0 a2 hl
  obtain ⟨c1, c2, _⟩ := dv_prod K _ _ _ _ _ _ h0 h1 hp
  obtain ⟨d1, d2, _⟩ := dv_prod K _ _ _ _ _ _ h0 h2 hq
  obtain ⟨e1, e2, e3⟩ := dv_sum (2 * K) _ _ _ _ _ _ c2 d2 hr
  refine dv_inj (2 * K) b2 e2 b3 e3 ?_
  rw [b1, a1, e1, c1, d1, Int.mul_add]
end Go.Proofs.YthipbonhkcjcfaaDoor
