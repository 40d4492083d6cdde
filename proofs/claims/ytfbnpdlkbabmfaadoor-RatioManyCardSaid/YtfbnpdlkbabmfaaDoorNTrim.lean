/- natdiv.trim: the part of a list of words without zeros at the end, in the list's own memory. -/
import Derived.Test.YtfbnpdlkbabmfaaDoorBitNum
namespace Go.Proofs.YtfbnpdlkbabmfaaDoor
open Go.RowKit Go.Shelf

theorem nbits_words {xs : List Nat} (hlow : Low 18446744073709551616 xs) : (nbits (val 18446744073709551616 xs) + 63) / 64 = (cutz xs).length ∧ (cutz xs = [] ↔ nbits (val 18446744073709551616 xs) = 0) := by
  rw [← val_cutz]
  have hl := cutz_low hlow
  have hc := cutz_cutz xs
  generalize cutz xs = ys at *
  by_cases hne : ys = []
  · subst hne; simp [val, nbits]
  · have hpos : 0 < ys.length := List.length_pos_iff.2 hne
    have ht := cutz_top hc hne
    have h1 : nbits (val 18446744073709551616 ys) = 64 * (ys.length - 1) + nbits (lim ys (ys.length - 1)) := nbits_top (p := 64) rfl hl ht (fun j hj => lim_ge (by omega))
    have h2 := nbits_le (n := lim ys (ys.length - 1)) (k := 64) (by simpa using lim_lt hl (by decide) (ys.length - 1))
    have h3 := (nbits_bounds ht).1
    refine ⟨by omega, fun h => absurd h hne, fun h => by omega⟩
theorem cutz_take_len (xs : List Nat) : cutz xs = xs.take (cutz xs).length := by
  induction xs with
  | nil => rfl
  | cons x r ih =>
    rw [cutz]
    split
    · rfl
    · rw [List.length_cons, List.take_succ_cons, ← ih]

set_option maxHeartbeats 1000000 in
theorem ntrim_calls (b : Nat) (v : Value) (xs : List Nat) (hreach : xs.length ≤ 17592186044416) (hlow : Low 18446744073709551616 xs) (w : World) (hb : b < w.heap.size) (hI : RdAt b w v xs) :
    Calls Tryd.prog 63 #[v] w fun e W' => ∃ v', e = .returned v' ∧ RdAt b W' v' (cutz xs) ∧ Below w.heap.size w W' := by
  obtain ⟨a, cap, rfl, hcap, hsome⟩ := hI.slice
  have hbc := bits_calls b _ xs hreach hlow w hb hI
  obtain ⟨hn1, hn2⟩ := nbits_words hlow
  have hlen := cutz_length xs
  have hnl : nbits (val 18446744073709551616 xs) ≤ 64 * xs.length := by
    refine nbits_le ?_
    have := val_lt hlow (by decide)
    rwa [show 18446744073709551616 = 2 ^ 64 from rfl, ← Nat.pow_mul] at this
  have ht : Hid (cutz xs = xs.take (cutz xs).length) := Lib.hid (cutz_take_len xs)
  by_cases h0 : nbits (val 18446744073709551616 xs) = 0
  · have hz : Hid (cutz xs = []) := Lib.hid (hn2.2 h0)
    rw [h0] at hbc
    clear hn1 hn2 hnl hlen h0 hsome
    go_enter Tryd.func63, Tryd.ntmps63
    go_wp2_with fail
    refine hbc.mono ?_
    rintro e w1 ⟨rfl, hb1⟩
    go_wp2
    go_ret
    exact ⟨_, rfl, .inl ⟨⟨_, _, rfl⟩, hz.out⟩, hb1⟩
  · have hx0 : 0 < xs.length := by omega
    obtain ⟨off, rfl⟩ := hsome hx0
    have HI := Lib.hid hI
    generalize hN : nbits (val 18446744073709551616 xs) = N at *
    generalize hL : (cutz xs).length = L at *
    have HN := Lib.hid hn1
    have hd0 : ((N : Int) == 0) = false := beq_eq_false_iff_ne.2 (by omega)
    have hk1 : ((N : Int) + 63) / 64 = (L : Int) := by omega
    have hLc : L ≤ cap := by omega
    have HL := Lib.hid hL
    clear hn1 hn2 hsome hI hN hL h0
    go_enter Tryd.func63, Tryd.ntmps63
    go_wp2_with fail
    refine hbc.mono ?_
    rintro e w1 ⟨rfl, hb1⟩
    clear hbc
    go_wp2
    go_ret
    refine ⟨_, rfl, ?_, hb1⟩
    rw [ht.out]
    exact RdAt.take (HI.out.kept (hb1.block b hb)) hlen
end Go.Proofs.YtfbnpdlkbabmfaaDoor
