/- vernierref01.Limbs: digits of 16 bits, as words. -/
import Derived.Test.YthipbonhkcjcfaaDoorRefCut
namespace Go.Proofs.YthipbonhkcjcfaaDoor
open Go.RowKit Go.Shelf

def acc (xs : List Nat) (q : Nat) : Nat → Nat
  | 0 => 0
  | s + 1 => acc xs q s * 65536 + lim xs (4 * q + (3 - s))
/-- the word that four digits are -/
def lm (xs : List Nat) (q : Nat) : Nat := acc xs q 4
def words (xs : List Nat) (n : Nat) : List Nat := (List.range n).map (lm xs)
theorem words_succ (xs : List Nat) (n : Nat) : words xs (n + 1) = words xs n ++ [lm xs n] := by simp [words, List.range_succ]
theorem words_length (xs : List Nat) (n : Nat) : (words xs n).length = n := by simp [words]
theorem lim_words {xs : List Nat} {n i : Nat} (h : i < n) : lim (words xs n) i = lm xs i := by simp [lim, words, h]
theorem lm_eq (xs : List Nat) (q : Nat) : lm xs q = lim xs (4 * q) + 65536 * lim xs (4 * q + 1) + 4294967296 * lim xs (4 * q + 2) + 281474976710656 * lim xs (4 * q + 3) := by
  simp only [lm, acc]
  simp only [Nat.sub_self, Nat.add_zero, show 3 - 0 = 3 from rfl, show 3 - 1 = 2 from rfl, show 3 - 2 = 1 from rfl]
  omega
theorem acc_lt {xs : List Nat} (h : Low 65536 xs) (q : Nat) : acc xs q 0 < 1 ∧ acc xs q 1 < 65536 ∧ acc xs q 2 < 4294967296 ∧ acc xs q 3 < 281474976710656 ∧ acc xs q 4 < 18446744073709551616 := by
  have h0 := lim_lt h (by decide) (4 * q + (3 - 0))
  have h1 := lim_lt h (by decide) (4 * q + (3 - 1))
  have h2 := lim_lt h (by decide) (4 * q + (3 - 2))
  have h3 := lim_lt h (by decide) (4 * q + (3 - 3))
  simp only [acc]
  omega
theorem words_part {xs : List Nat} (n i : Nat) (hi : i ≤ n) : part 18446744073709551616 (words xs n) i = part 65536 xs (4 * i) := by
  induction i with
  | zero => rfl
  | succ i ih =>
    have e : 18446744073709551616 ^ i = 65536 ^ (4 * i) := by rw [Nat.pow_mul]
    rw [part, ih (by omega), lim_words (by omega), show 4 * (i + 1) = 4 * i + 1 + 1 + 1 + 1 by omega, part, part, part, part, lm_eq, e]
    have p1 : 65536 ^ (4 * i + 1) = 65536 ^ (4 * i) * 65536 := Nat.pow_succ _ _
    have p2 : 65536 ^ (4 * i + 1 + 1) = 65536 ^ (4 * i) * 4294967296 := by rw [Nat.pow_succ, p1, Nat.mul_assoc]
    have p3 : 65536 ^ (4 * i + 1 + 1 + 1) = 65536 ^ (4 * i) * 281474976710656 := by rw [Nat.pow_succ, p2, Nat.mul_assoc]
    rw [p1, p2, p3, Nat.mul_add, Nat.mul_add, Nat.mul_add, Nat.mul_assoc, Nat.mul_assoc, Nat.mul_assoc]
    omega
theorem words_low {xs : List Nat} (h : Low 65536 xs) (n : Nat) : Low 18446744073709551616 (words xs n) := by
  intro x hx
  obtain ⟨q, _, rfl⟩ := List.mem_map.1 hx
  exact (acc_lt h q).2.2.2.2
theorem words_digs {N n : Nat} (h1 : (digs 65536 N).length ≤ 4 * n) (h2 : 4 * n < (digs 65536 N).length + 4) : words (digs 65536 N) n = digs 18446744073709551616 N := by
  have hlow := digs_low (B := 65536) (by decide) N
  have hval : val 18446744073709551616 (words (digs 65536 N) n) = N := by
    rw [← part_all, words_length, words_part n n (Nat.le_refl _), part_ge _ _ _ h1, val_digs (by decide)]
  have hcut : cutz (words (digs 65536 N) n) = words (digs 65536 N) n := by
    cases n with
    | zero => rfl
    | succ m =>
      rw [words_succ]
      refine cutz_snoc ?_
      have hne : digs 65536 N ≠ [] := by intro h; rw [h] at h2; simp at h2; omega
      have ht := cutz_top (cutz_digs (B := 65536) (by decide) N) hne
      have hl : 0 < (digs 65536 N).length := List.length_pos_iff.2 hne
      intro h0
      rw [lm_eq] at h0
      have : (digs 65536 N).length - 1 = 4 * m ∨ (digs 65536 N).length - 1 = 4 * m + 1 ∨ (digs 65536 N).length - 1 = 4 * m + 2 ∨ (digs 65536 N).length - 1 = 4 * m + 3 := by omega
      rcases this with e | e | e | e <;> rw [e] at ht <;> omega
  rw [← hcut, cutz_eq_digs (by decide) (words_low hlow n), hval]

theorem cast_mul16 (X : Nat) : (X : Int) * 65536 = ((X * 65536 : Nat) : Int) := by omega
def wordsV (xs : List Nat) : List Value := xs.map fun (x : Nat) => Value.int .u64 (x : Int)

set_option maxHeartbeats 2000000 in
theorem limbs_calls (b : Nat) (v : Value) (N : Nat) (hxl : (digs 65536 N).length ≤ 70368744177664) (w : World) (hb : b < w.heap.size) (hI : IAt b w v (digs 65536 N)) :
    Calls Tryd.prog 39 #[v] w fun e w' => ∃ v', e = .returned v' ∧ New w.heap.size w' v' (digs 18446744073709551616 N) ∧ Below w.heap.size w w' := by
  obtain ⟨a, cap, rfl, hcap, hsa⟩ := hI.slice
  have hlow := digs_low (B := 65536) (by decide) N
  have hfin : Hid (∀ n, (digs 65536 N).length ≤ 4 * n → 4 * n < (digs 65536 N).length + 4 → words (digs 65536 N) n = digs 18446744073709551616 N) := Lib.hid (fun n h1 h2 => words_digs h1 h2)
  generalize digs 65536 N = xs at *
  have HS := Lib.hid hsa
  have HI := Lib.hid hI
  clear hsa hI
  obtain ⟨i0, hi, hz0, hz1, hz2⟩ := info_parts info_u64
  go_enter Tryd.func39, Tryd.ntmps39
  go_wp2
  go_loopw [3, 4] (fun o i wr => ∃ q I : Nat, I < xs.length + 4 ∧ I ≤ 4 * q ∧ 4 * q ≤ I ∧ i = .int .i64 I ∧ Hid (wr.ownsRow w.heap.size 45 1 o q (wordsV (words xs q))) ∧ Below w.heap.size w wr) (fun _ i _ => xs.length + 4 - (intOf i).toNat)
  case atStart => exact ⟨0, 0, by omega, by omega, by omega, rfl, Lib.hid (by simpa [wordsV, words] using World.ownsRow_nil w w.heap.size 45 1), Below.refl _ _⟩
  case round =>
    obtain ⟨q, I, hI, hq1, hq2, rfl, hown, hB⟩ := hrel
    by_cases hlt : I < xs.length
    · obtain ⟨off, rfl⟩ := HS.out (by omega)
      obtain ⟨wo, rfl⟩ : ∃ wo : World, wo = wr := ⟨_, rfl⟩
      go_wp2
      go_loop [5, 6] (fun x j => ∃ (r X : Nat) (z : Int), r ≤ 4 ∧ z + r = 3 ∧ j = .int .i64 z ∧ Hid (X = acc xs q r) ∧ (r < 4 → X < 281474976710656) ∧ x = .int .u64 X) (fun _ j => (intOf j + 1).toNat)
      case atStart => exact ⟨0, 0, 3, by omega, by omega, rfl, Lib.hid rfl, by omega, rfl⟩
      case round =>
        obtain ⟨r, X, z, hr, hz, rfl, hX, hXl, rfl⟩ := hrel
        by_cases hr4 : r < 4
        · obtain ⟨zz, rfl⟩ := Int.eq_ofNat_of_zero_le (show 0 ≤ z by omega)
          have hX' := hXl hr4
          have hidx : Hid (4 * q + (3 - r) = I + zz) := Lib.hid (by omega)
          have hlm := lim_lt hlow (by decide) (I + zz)
          have hacc : Hid (X * 65536 + lim xs (I + zz) = acc xs q (r + 1)) := Lib.hid (by rw [acc, hidx.out, hX.out])
          have hb4 : r + 1 < 4 → X * 65536 + lim xs (I + zz) < 281474976710656 := by
            intro h
            rw [hacc.out]
            have h5 := acc_lt hlow q
            have : r + 1 = 1 ∨ r + 1 = 2 ∨ r + 1 = 3 := by omega
            rcases this with e | e | e <;> rw [e] <;> omega
          have HB4 := Lib.hid hb4
          have HB5 : Hid (r + 1 < 4 → X * 65536 < 281474976710656) := Lib.hid (fun h => Nat.lt_of_le_of_lt (Nat.le_add_right _ _) (hb4 h))
          clear hb4 hXl
          by_cases hin : I + zz < xs.length
          · have hc : wo.cell? ⟨b, off + (I + zz), none⟩ = some (.int .i64 (lim xs (I + zz) : Int)) := (hB.cell (p := ⟨b, off + (I + zz), none⟩) hb).trans (HI.out.cell hin)
            go_wp2
            go_round
            case rel => exact ⟨r + 1, X * 65536 + lim xs (I + zz), (zz : Int) - 1, by omega, by omega, rfl, hacc, HB4.out, by simp⟩
            case measure => simp [intOf]
          · have h0 : Hid (lim xs (I + zz) = 0) := Lib.hid (lim_ge (by omega))
            go_wp2
            go_round
            case rel => exact ⟨r + 1, X * 65536, (zz : Int) - 1, by omega, by omega, rfl, Lib.hid (by rw [← hacc.out, h0.out, Nat.add_zero]), HB5.out, congrArg (Value.int .u64) (cast_mul16 X)⟩
            case measure => simp [intOf]
        · obtain rfl : r = 4 := by omega
          obtain rfl : z = -1 := by omega
          go_wp2_with (at_builtin; refine wpList_append_own _ rfl _ _ 22 rfl w.heap.size 45 i0 (.int .u64 0) 1 8 Tryd.underlying22 hi hz0 hz1 hz2 rfl (by decide) _ _ _ rfl (hown.out.alloc _) ⟨_, 0, none⟩ 1 1 [.int .u64 (X : Int)] rfl rfl ?c1 ?c2 ?c3 ?c4 ?c5 ?_)
          case c2 => rfl
          case c3 => simp only [maxLen]; omega
          case c4 => omega
          case c5 => have := hB.size; omega
          intro v' w1 hown' hgrow _
          have hown3 : Hid (w1.ownsRow w.heap.size 45 1 v' (q + 1) (wordsV (words xs (q + 1)))) := Lib.hid (by
            rw [words_succ]
            have e : wordsV (words xs q ++ [lm xs q]) = wordsV (words xs q) ++ [.int .u64 (X : Int)] := by rw [hX.out]; simp [wordsV, lm]
            rw [e]
            exact hown')
          have hB3 : Below w.heap.size w w1 := (hB.alloc hB.size (.cells #[.int .u64 (X : Int)] 45)).grown hgrow (by have := hB.size; simp; omega) (fun g e => (hown.out.lt g e).1)
          clear hown' hgrow
          go_wp2
          go_roundw
          case rel => exact ⟨q + 1, I + 4, by omega, by omega, by omega, by simp, hown3, hB3⟩
          case measure => simp [intOf]; omega
    · have h4 := hown.out
      rcases ownsRow_rd (xs := words xs q) h4 with ⟨rfl, h5⟩ | ⟨S, hS1, hS2, hr⟩
      · have H5 := Lib.hid h5
        clear h5 h4
        go_wp2
        go_ret
        exact ⟨_, rfl, ⟨b, .inl ⟨⟨_, _, rfl⟩, by rw [← hfin.out q (by omega) (by omega)]; exact H5.out⟩, Nat.lt_of_lt_of_le hb hB.size, .inl rfl⟩, hB⟩
      · have HR := Lib.hid hr
        obtain ⟨oa, oc, rfl, _, _⟩ := hr.slice
        clear hr h4
        go_wp2
        go_ret
        exact ⟨_, rfl, ⟨S, by rw [← hfin.out q (by omega) (by omega)]; exact HR.out, hS2, .inr hS1⟩, hB⟩
end Go.Proofs.YthipbonhkcjcfaaDoor
