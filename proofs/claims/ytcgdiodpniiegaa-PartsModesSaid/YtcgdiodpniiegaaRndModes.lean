/- A number rounded down, up, toward 0, to the nearest: how these stand to each other. No program is named here. -/
import Derived.Test.YtcgdiodpniiegaaRndOne
namespace Go.Proofs.Ytcgdiodpniiegaa

theorem sgn_false : sgn false = 0 := rfl
theorem sgn_true : sgn true = 9223372036854775808 := rfl
def Modes (a f b g z n w c : Nat) : Prop :=
  a ≤ b ∧ b - a ≤ 1 ∧ z = a ∧ (n = a ∨ n = b) ∧ (w = a ∨ w = b) ∧ n ≤ w ∧ c = a + 9223372036854775808 ∧ (f = g ∨ a ≠ b) ∧ b ≤ 9218868437227405312
theorem fin_modes {q : Nat} {e : Int} {inx tiny : Bool} {half : Int} (hf : Fits q e) (hh : inx = false → half = -1) :
    Modes (fin false 4 q e inx tiny half).1 (fin false 4 q e inx tiny half).2 (fin false 3 q e inx tiny half).1 (fin false 3 q e inx tiny half).2 (fin false 2 q e inx tiny half).1 (fin false 0 q e inx tiny half).1 (fin false 1 q e inx tiny half).1 (fin true 3 q e inx tiny half).1 := by
  simp only [fin_eq hf]
  have u4 : rup false 4 q inx half = false := by simp [rup]
  have u3 : rup false 3 q inx half = inx := by simp [rup]
  have u2 : rup false 2 q inx half = false := by simp [rup]
  have v3 : rup true 3 q inx half = false := by simp [rup]
  have u1 : rup false 1 q inx half = decide (0 ≤ half) := by simp [rup]
  have u0 : rup false 0 q inx half = (decide (0 < half) || (decide (half = 0) && decide (q % 2 = 1))) := by simp [rup]
  obtain ⟨p, hp⟩ : ∃ p, p = rup false 0 q inx half := ⟨_, rfl⟩
  obtain ⟨p1, hp1⟩ : ∃ p1, p1 = rup false 1 q inx half := ⟨_, rfl⟩
  rw [← hp1] at u1
  rw [← hp] at u0
  have k1 : p1 = true → inx = true := by
    intro h
    cases inx
    · rw [hh rfl] at u1
      rw [h] at u1
      exact absurd u1 (by decide)
    · rfl
  have k0 : p = true → p1 = true := by
    intro h
    rw [u1]
    rw [h] at u0
    simp at u0
    exact decide_eq_true (by omega)
  rw [u4, u3, u2, v3, ← hp, ← hp1]
  clear hp hp1 u0 u1 u2 u3 u4 v3 hh
  have b4 : rbig false 4 = (9218868437227405311, 20) := rfl
  have b3 : rbig false 3 = (9218868437227405312, 20) := rfl
  have b2 : rbig false 2 = (9218868437227405311, 20) := rfl
  have b1 : rbig false 1 = (9218868437227405312, 20) := rfl
  have b0 : rbig false 0 = (9218868437227405312, 20) := rfl
  have c3 : rbig true 3 = (18442240474082181119, 20) := rfl
  rw [b4, b3, b2, b1, b0, c3, sgn_false, sgn_true]
  simp only [Bool.false_eq_true, if_false]
  generalize (e + 1074).toNat * 4503599627370496 = t
  unfold Modes
  cases inx
  · have hp1 : p1 = false := by cases p1; rfl; exact absurd (k1 rfl) (by decide)
    have hp : p = false := by cases p; rfl; rw [hp1] at k0; exact absurd (k0 rfl) (by decide)
    subst hp1 hp
    simp only [Bool.false_eq_true, if_false]
    by_cases h : 9218868437227405312 ≤ t + q
    · simp only [h, if_true]; (refine ⟨?_, ?_, ?_, ?_, ?_, ?_, ?_, ?_, ?_⟩ <;> first | exact True.intro | exact .inl True.intro | exact .inr True.intro | omega)
    · simp only [h, if_false]; (refine ⟨?_, ?_, ?_, ?_, ?_, ?_, ?_, ?_, ?_⟩ <;> first | exact True.intro | exact .inl True.intro | exact .inr True.intro | omega)
  · simp only [if_true]
    by_cases h : 9218868437227405312 ≤ t + q
    · have h' : 9218868437227405312 ≤ t + (q + 1) := by omega
      simp only [h, h', if_true]
      have e1 : ∀ b : Bool, 9218868437227405312 ≤ t + (if b = true then q + 1 else q) := by intro b; split <;> omega
      simp only [e1, if_true]
      refine ⟨?_, ?_, ?_, ?_, ?_, ?_, ?_, ?_, ?_⟩ <;> first | exact True.intro | exact .inl True.intro | exact .inr True.intro | omega
    · simp only [h, if_false]
      by_cases h' : 9218868437227405312 ≤ t + (q + 1)
      · simp only [h', if_true]
        cases p1
        · have hp : p = false := by cases p; rfl; exact absurd (k0 rfl) (by decide)
          subst hp
          simp only [Bool.false_eq_true, h, if_false]
          refine ⟨?_, ?_, ?_, ?_, ?_, ?_, ?_, ?_, ?_⟩ <;> first | exact True.intro | exact .inl True.intro | exact .inr True.intro | omega
        · cases p
          · simp only [Bool.false_eq_true, h, h', if_true, if_false]; (refine ⟨?_, ?_, ?_, ?_, ?_, ?_, ?_, ?_, ?_⟩ <;> first | exact True.intro | exact .inl True.intro | exact .inr True.intro | omega)
          · simp only [h', if_true]; (refine ⟨?_, ?_, ?_, ?_, ?_, ?_, ?_, ?_, ?_⟩ <;> first | exact True.intro | exact .inl True.intro | exact .inr True.intro | omega)
      · simp only [h', if_false]
        cases p1
        · have hp : p = false := by cases p; rfl; exact absurd (k0 rfl) (by decide)
          subst hp
          simp only [Bool.false_eq_true, h, if_false]
          refine ⟨?_, ?_, ?_, ?_, ?_, ?_, ?_, ?_, ?_⟩ <;> first | exact True.intro | exact .inl True.intro | exact .inr True.intro | omega
        · cases p
          · simp only [Bool.false_eq_true, h, h', if_true, if_false]; (refine ⟨?_, ?_, ?_, ?_, ?_, ?_, ?_, ?_, ?_⟩ <;> first | exact True.intro | exact .inl True.intro | exact .inr True.intro | omega)
          · simp only [h', if_true, if_false]; (refine ⟨?_, ?_, ?_, ?_, ?_, ?_, ?_, ?_, ?_⟩ <;> first | exact True.intro | exact .inl True.intro | exact .inr True.intro | omega)
theorem rnd_modes {num den : Nat} (hn : 0 < num) (hd : 0 < den) (exp : Int) :
    Modes (rnd false num den exp 4).1 (rnd false num den exp 4).2 (rnd false num den exp 3).1 (rnd false num den exp 3).2 (rnd false num den exp 2).1 (rnd false num den exp 0).1 (rnd false num den exp 1).1 (rnd true num den exp 3).1 := by
  unfold rnd
  refine fin_modes (rexp_fits hn hd exp) ?_
  intro h
  have h0 : rst num den (exp - rexp num den exp) = 0 := by
    have := of_decide_eq_false h
    omega
  rw [h0]
  exact cmpN_lt (by have := lower_pos hd (exp - rexp num den exp); omega)
theorem rnd_mode0 {neg : Bool} {num den : Nat} {exp mode : Int} (h : mode < 0 ∨ 4 < mode) : rnd neg num den exp mode = rnd neg num den exp 0 := by
  have hu : ∀ q inx half, rup neg mode q inx half = rup neg 0 q inx half := by
    intro q inx half
    unfold rup
    rw [if_neg (by omega), if_neg (by omega), if_neg (by omega), if_neg (by omega), if_neg (by decide), if_neg (by decide), if_neg (by decide), if_neg (by decide)]
  have hb : rbig neg mode = rbig neg 0 := by
    unfold rbig
    rw [if_neg (by omega), if_neg (by omega)]
  unfold rnd fin
  simp only [hu, hb]
end Go.Proofs.Ytcgdiodpniiegaa
