/- A number rounded up: no less, of few bits, less than one step above. -/
import Derived.Test.YthipbonhkcjcfaaDoorDyVal
import Derived.Test.YthipbonhkcjcfaaDoorDyAbove
namespace Go.Proofs.YthipbonhkcjcfaaDoor
open Go.RowKit Go.Shelf

def aboveD (s : Bool) (M : Nat) (E bits : Int) : Dn := if (nbits M : Int) ≤ max bits 1 then tld s M E else tld s (upN s M ((nbits M : Int) - max bits 1).toNat) (E + (((nbits M : Int) - max bits 1).toNat : Int))
theorem aboveD_few {s : Bool} {M : Nat} {E bits : Int} (h : (nbits M : Int) ≤ max bits 1) : aboveD s M E bits = tld s M E := if_pos h
theorem aboveD_many {s : Bool} {M v : Nat} {E bits : Int} (h : (nbits M : Int) = max bits 1 + v) (h0 : 0 < v) : aboveD s M E bits = tld s (upN s M v) (E + v) := by
  rw [aboveD, if_neg (by omega), show ((nbits M : Int) - max bits 1).toNat = v by omega]
theorem dabove {s : Bool} {a : Option Addr} {m cap M i : Nat} {E bits : Int} {w : World} (hA : Num w (.slice a m cap) M i) (hT : TabOk w) (hb1 : -9223372036854775808 ≤ bits) (hb2 : bits < 9223372036854775808) :
    Calls Tryd.prog 25 #[.agg #[.bool s, .slice a m cap, .int .i64 E], .int .i64 bits] w (DP w (resD (mayB m E) (aboveD s M E bits)) (resE (mayB m E) (aboveD s M E bits))) := by
  by_cases hf : (nbits M : Int) ≤ max bits 1
  · rw [aboveD_few hf]
    exact dabove_few hA hT hb1 hb2 hf
  · obtain ⟨v, hv⟩ : ∃ v : Nat, (nbits M : Int) = max bits 1 + v := ⟨((nbits M : Int) - max bits 1).toNat, by omega⟩
    have hv0 : 0 < v := by omega
    rw [aboveD_many hv hv0]
    cases s
    · by_cases hz : v ≤ tz M
      · exact dabove_even hA hT hb1 hb2 hv hv0 hz
      · exact dabove_up hA hT hb1 hb2 hv hv0 (by omega)
    · exact dabove_below hA hT hb1 hb2 hv hv0
theorem nbits_mono {n m : Nat} (h : n ≤ m) : nbits n ≤ nbits m := nbits_le (Nat.lt_of_le_of_lt h (nbits_lt m))
theorem tld_le (s : Bool) (N : Nat) (E : Int) : (tld s N E).n ≤ N := by
  by_cases h : N = 0
  · subst h; rw [tld_zero]; exact Nat.le_refl _
  · rw [tld_pos s h]; exact Nat.div_le_self _ _
theorem tld_bits {s : Bool} {N B : Nat} {E : Int} (h1 : N ≤ 2 ^ B) (h0 : 1 ≤ B) : nbits (tld s N E).n ≤ B := by
  rcases Nat.lt_or_ge N (2 ^ B) with h | h
  · exact Nat.le_trans (nbits_mono (tld_le s N E)) (nbits_le h)
  · have e : N = 2 ^ B := by omega
    have hz : tz N = B := by rw [e]; have := tz_pow B 0; simpa using this
    have hp : 0 < 2 ^ B := Nat.pow_pos (by decide)
    rw [tld_pos s (by omega), hz, e, Nat.div_self hp]
    exact h0
/-- rounded up it is no less, and less than one step above -/
theorem up_step (s : Bool) {M v : Nat} (h0 : M ≠ 0) : wn s M ≤ wn s (upN s M v) * ((2 ^ v : Nat) : Int) ∧ wn s (upN s M v) * ((2 ^ v : Nat) : Int) - wn s M < ((2 ^ v : Nat) : Int) := by
  have hp : 0 < 2 ^ v := Nat.pow_pos (by decide)
  have hd := Nat.div_add_mod M (2 ^ v)
  have hm := Nat.mod_lt M hp
  rw [← wn_mulr]
  unfold upN
  by_cases h : s = true ∨ v ≤ tz M
  · rw [if_pos h]
    rw [Nat.mul_comm] at hd
    cases s
    · have hv : v ≤ tz M := by simpa using h
      obtain ⟨q, hq⟩ := tz_split h0
      have e : M = (2 ^ (tz M - v) * (2 * q + 1)) * 2 ^ v := by
        conv => lhs; rw [hq]
        rw [Nat.mul_right_comm, ← Nat.pow_add, show tz M - v + v = tz M by omega]
      have hz : M % 2 ^ v = 0 := by rw [e]; exact Nat.mul_mod_left _ _
      simp only [wn]
      generalize M / 2 ^ v * 2 ^ v = X at *
      generalize M % 2 ^ v = Y at *
      generalize 2 ^ v = P at *
      constructor <;> simp <;> omega
    · simp only [wn]
      generalize M / 2 ^ v * 2 ^ v = X at *
      generalize M % 2 ^ v = Y at *
      generalize 2 ^ v = P at *
      constructor <;> simp <;> omega
  · rw [if_neg h]
    have hs : s = false := by cases s <;> simp_all
    have hv : tz M < v := by
      rcases Nat.lt_or_ge (tz M) v with h1 | h1
      · exact h1
      · exact absurd (.inr h1) h
    subst hs
    have hz : M % 2 ^ v ≠ 0 := by
      intro hz
      have e : M = M / 2 ^ v * 2 ^ v := by rw [Nat.mul_comm]; omega
      have hq : M / 2 ^ v ≠ 0 := by intro h1; rw [h1] at e; simp at e; exact h0 e
      have := tz_mul v hq
      rw [← e] at this
      omega
    rw [Nat.mul_comm] at hd
    rw [Nat.add_mul, Nat.one_mul]
    simp only [wn]
    generalize M / 2 ^ v * 2 ^ v = X at *
    generalize M % 2 ^ v = Y at *
    generalize 2 ^ v = P at *
    constructor <;> simp <;> omega
theorem up_bits (s : Bool) {M v B : Nat} (h : M < 2 ^ (B + v)) : upN s M v ≤ 2 ^ B := by
  have h1 : M / 2 ^ v < 2 ^ B := by
    rw [Nat.div_lt_iff_lt_mul (Nat.pow_pos (by decide)), ← Nat.pow_add]; exact h
  unfold upN
  split <;> omega
theorem dv_split (K : Nat) (s : Bool) (N v : Nat) {E : Int} (hE : -(K : Int) ≤ E) : dv K s N (E + v) = wn s N * ((2 ^ v : Nat) : Int) * ((2 ^ (E + K).toNat : Nat) : Int) := by
  rw [← dv_shift K s N v hE, dv, wn_mulr]
/-- what a number is to itself rounded up -/
theorem above_facts {s : Bool} {M : Nat} {E bits : Int} {r : Dn} (K : Nat) (hE : -(K : Int) ≤ E) (h : aboveD s M E bits = r) :
    -(K : Int) ≤ r.x ∧ (nbits r.n : Int) ≤ max bits 1 ∧
    ((nbits M : Int) ≤ max bits 1 → dv K r.s r.n r.x = dv K s M E) ∧
    (∀ v : Nat, (nbits M : Int) = max bits 1 + v → 0 < v → dv K s M E ≤ dv K r.s r.n r.x ∧ dv K r.s r.n r.x - dv K s M E < dv K false 1 (E + v)) := by
  by_cases hf : (nbits M : Int) ≤ max bits 1
  · rw [aboveD_few hf] at h
    obtain ⟨e1, e2, _⟩ := dv_tld K s M hE h
    refine ⟨e2, ?_, fun _ => e1, fun v hv h0 => by omega⟩
    have := tld_le s M E
    rw [h] at this
    have := nbits_mono this
    omega
  · obtain ⟨v, hv⟩ : ∃ v : Nat, (nbits M : Int) = max bits 1 + v := ⟨((nbits M : Int) - max bits 1).toNat, by omega⟩
    have hv0 : 0 < v := by omega
    have hM0 : M ≠ 0 := by rintro rfl; rw [nbits_zero] at hf; omega
    rw [aboveD_many hv hv0] at h
    obtain ⟨e1, e2, _⟩ := dv_tld K s _ (show -(K : Int) ≤ E + v by omega) h
    refine ⟨e2, ?_, fun h => absurd h hf, fun v' hv' h0' => ?_⟩
    · have h1 : M < 2 ^ ((max bits 1).toNat + v) := by
        have := nbits_lt M
        rwa [show nbits M = (max bits 1).toNat + v by omega] at this
      have h2 := tld_bits (s := s) (E := E + v) (up_bits s h1) (by omega)
      rw [h] at h2
      omega
    · obtain rfl : v' = v := by omega
      obtain ⟨u1, u2⟩ := up_step s (v := v') hM0
      have hP : (0 : Int) < ((2 ^ (E + K).toNat : Nat) : Int) := by
        have : 0 < 2 ^ (E + K).toNat := Nat.pow_pos (by decide)
        omega
      rw [e1, dv_split K s _ v' hE, dv_split K false 1 v' hE]
      show wn s M * _ ≤ _ ∧ _
      have hd : dv K s M E = wn s M * ((2 ^ (E + K).toNat : Nat) : Int) := rfl
      rw [hd]
      generalize ((2 ^ (E + ↑K).toNat : Nat) : Int) = P at hP ⊢
      generalize wn s (upN s M v') * ((2 ^ v' : Nat) : Int) = U at u1 u2 ⊢
      have h1 : wn false 1 = 1 := rfl
      rw [h1, Int.one_mul]
      generalize ((2 ^ v' : Nat) : Int) = V at u2 ⊢
      refine ⟨Int.mul_le_mul_of_nonneg_right u1 (by omega), ?_⟩
      rw [← Int.sub_mul]
      exact Int.mul_lt_mul_of_pos_right u2 hP
end Go.Proofs.YthipbonhkcjcfaaDoor
