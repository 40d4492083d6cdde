/- vernierlaw20.MatParts: Cut and Paste, whole. -/
import Derived.Test.YtdcebkhdnhdejaaMaPast2
import Derived.BigQuiet
import Derived.Deep.DeepCutAuto
namespace Go.Proofs.Ytdcebkhdnhdejaa
open Go.RowKit Go.Shelf
theorem cutE_ok {R C : Int} {m : Nat} {i j rows cols : Int} (h : cutE R C m i j rows cols = 0) : mayM R C m = true ∧ 1 ≤ rows ∧ 1 ≤ cols ∧ 0 ≤ i ∧ 0 ≤ j ∧ i + rows ≤ R ∧ j + cols ≤ C := by
  unfold cutE at h
  cases hm : mayM R C m
  · rw [if_pos hm] at h; exact absurd h (by decide)
  · rw [if_neg (by rw [hm]; decide)] at h
    by_cases ho : rows < 1 ∨ cols < 1 ∨ outP R C i j rows cols = true
    · rw [if_pos ho] at h; exact absurd h (by decide)
    · have h3 : outP R C i j rows cols = false := by
        cases hh : outP R C i j rows cols
        · rfl
        · exact absurd (.inr (.inr hh)) ho
      have h4 := of_decide_eq_false h3
      exact ⟨rfl, by omega, by omega, by omega, by omega, by omega, by omega⟩
theorem pasE_ok {R C : Int} {m : Nat} {R2 C2 : Int} {n : Nat} {i j : Int} (h : pasE R C m R2 C2 n i j = 0) : mayM R C m = true ∧ mayM R2 C2 n = true ∧ 0 ≤ i ∧ 0 ≤ j ∧ i + R2 ≤ R ∧ j + C2 ≤ C := by
  unfold pasE at h
  cases hm : mayM R C m
  · rw [if_pos hm] at h; exact absurd h (by decide)
  · rw [if_neg (by rw [hm]; decide)] at h
    cases hn : mayM R2 C2 n
    · rw [if_pos hn] at h; exact absurd h (by decide)
    · rw [if_neg (by rw [hn]; decide)] at h
      cases ho : outP R C i j R2 C2
      · have h4 := of_decide_eq_false ho
        exact ⟨rfl, rfl, by omega, by omega, by omega, by omega⟩
      · rw [if_pos ho] at h; exact absurd h (by decide)
def cutI (C i j rows cols : Int) (xs : List Nat) : List Nat := cutV C.toNat i.toNat j.toNat rows.toNat cols.toNat xs
theorem cut_all {R C i j rows cols : Int} {a : Option Addr} {m cap : Nat} {xs : List Nat} {w : World} (hA : Arg w (.slice a m cap) xs) :
    Calls Try.prog 33 #[.agg #[.int .i64 R, .int .i64 C, .slice a m cap], .int .i64 i, .int .i64 j, .int .i64 rows, .int .i64 cols] w fun e W' => ∃ R3 C3 b n3 c3, e = .returned (.tuple #[.agg #[.int .i64 R3, .int .i64 C3, .slice b n3 c3], .int .i64 (cutE R C m i j rows cols)]) ∧ New w.heap.size W' (.slice b n3 c3) (if cutE R C m i j rows cols = 0 then cutI C i j rows cols xs else []) ∧ (cutE R C m i j rows cols = 0 → R3 = rows ∧ C3 = cols) ∧ Below w.heap.size w W' := by
  have hpos : 0 < w.heap.size := by obtain ⟨S, hS, _⟩ := hA; omega
  by_cases hE : cutE R C m i j rows cols = 0
  · obtain ⟨h1, h2, h3, h4, h5, h6, h7⟩ := cutE_ok hE
    obtain ⟨R', rfl⟩ := Int.eq_ofNat_of_zero_le (show 0 ≤ R by omega)
    obtain ⟨C', rfl⟩ := Int.eq_ofNat_of_zero_le (show 0 ≤ C by omega)
    obtain ⟨i', rfl⟩ := Int.eq_ofNat_of_zero_le h4
    obtain ⟨j', rfl⟩ := Int.eq_ofNat_of_zero_le h5
    obtain ⟨r', rfl⟩ := Int.eq_ofNat_of_zero_le (show 0 ≤ rows by omega)
    obtain ⟨c', rfl⟩ := Int.eq_ofNat_of_zero_le (show 0 ≤ cols by omega)
    refine (mat_cut hA h1 (by omega) (by omega) (by omega) (by omega) : Calls _ _ _ w _).mono ?_
    rintro e W' ⟨b, c, rfl, hN, hb⟩
    refine ⟨r', c', b, _, c, by rw [hE], ?_, fun _ => ⟨rfl, rfl⟩, hb⟩
    rw [if_pos hE]
    unfold cutI
    simp only [Int.toNat_natCast]
    exact hN
  · refine (mat_cut_no hE).mono ?_
    rintro e W' ⟨rfl, hb⟩
    exact ⟨0, 0, none, 0, 0, rfl, by rw [if_neg hE]; exact new_nil _ hpos hb, fun h => absurd h hE, hb⟩
theorem paste_all {R C R2 C2 i j : Int} {a b : Option Addr} {m n cap cap2 : Nat} {xs ys : List Nat} {w : World} (hA : Arg w (.slice a m cap) xs) (hB : Arg w (.slice b n cap2) ys) :
    Calls Try.prog 34 #[.agg #[.int .i64 R, .int .i64 C, .slice a m cap], .agg #[.int .i64 R2, .int .i64 C2, .slice b n cap2], .int .i64 i, .int .i64 j] w fun e W' => ∃ R3 C3 b3 n3 c3, e = .returned (.tuple #[.agg #[.int .i64 R3, .int .i64 C3, .slice b3 n3 c3], .int .i64 (pasE R C m R2 C2 n i j)]) ∧ New w.heap.size W' (.slice b3 n3 c3) (if pasE R C m R2 C2 n i j = 0 then pasV R C i j R2 C2 xs ys else []) ∧ (pasE R C m R2 C2 n i j = 0 → R3 = R ∧ C3 = C) ∧ Below w.heap.size w W' := by
  have hpos : 0 < w.heap.size := by obtain ⟨S, hS, _⟩ := hA; omega
  by_cases hE : pasE R C m R2 C2 n i j = 0
  · obtain ⟨h1, h2, h4, h5, h6, h7⟩ := pasE_ok hE
    obtain ⟨p1, p2, p3, p4, p5⟩ := mayM_iff.1 h1
    obtain ⟨r1, r2, r3, r4, r5⟩ := mayM_iff.1 h2
    obtain ⟨R', rfl⟩ := Int.eq_ofNat_of_zero_le (show 0 ≤ R by omega)
    obtain ⟨C', rfl⟩ := Int.eq_ofNat_of_zero_le (show 0 ≤ C by omega)
    obtain ⟨i', rfl⟩ := Int.eq_ofNat_of_zero_le h4
    obtain ⟨j', rfl⟩ := Int.eq_ofNat_of_zero_le h5
    obtain ⟨r', rfl⟩ := Int.eq_ofNat_of_zero_le (show 0 ≤ R2 by omega)
    obtain ⟨c', rfl⟩ := Int.eq_ofNat_of_zero_le (show 0 ≤ C2 by omega)
    refine (mat_paste hA hB h1 h2 (by omega) (by omega) : Calls _ _ _ w _).mono ?_
    rintro e W' ⟨b3, c, rfl, hN, hb⟩
    refine ⟨R', C', b3, _, c, by rw [hE], ?_, fun _ => ⟨rfl, rfl⟩, hb⟩
    rw [if_pos hE]
    unfold pasV
    simp only [Int.toNat_natCast]
    exact hN
  · refine (mat_paste_no hE).mono ?_
    rintro e W' ⟨rfl, hb⟩
    exact ⟨0, 0, none, 0, 0, rfl, by rw [if_neg hE]; exact new_nil _ hpos hb, fun h => absurd h hE, hb⟩
/-- what is cut, put back -/
theorem pas_cut {R C i j rr cc : Nat} {xs : List Nat} (hx : xs.length = R * C) : pasK R C i j cc xs (cutV C i j rr cc xs) rr = xs := by
  refine ext_lim (by unfold pasK; rw [rowV_length, hx]) fun p hp => ?_
  unfold pasK at hp ⊢
  rw [rowV_length] at hp
  rw [rowV_lim _ hp]
  by_cases h : i ≤ p / C ∧ p / C < i + rr ∧ j ≤ p % C ∧ p % C < j + cc
  · rw [if_pos h]
    unfold cutV
    rw [tab_lim _ (by omega) (by omega), show i + (p / C - i) = p / C by omega, show j + (p % C - j) = p % C by omega, Nat.mul_comm, Nat.div_add_mod]
  · rw [if_neg h]
end Go.Proofs.Ytdcebkhdnhdejaa
