/- vernierref01.Bits: how many bits one of the document's own naturals has. -/
import Derived.Test.YtppbifijgkcpjaaRefCut
import Derived.Test.YtppbifijgkcpjaaBitNum
namespace Go.Proofs.Ytppbifijgkcpjaa
open Go.RowKit Go.Shelf

set_option maxHeartbeats 1000000 in
theorem refBits_calls (b : Nat) (v : Value) (N : Nat) (hxl : (digs 65536 N).length ≤ 70368744177664) (w : World) (hI : IAt b w v (digs 65536 N)) :
    Calls Try.prog 26 #[v] w fun e w' => e = .returned (.int .i64 (nbits N : Int)) ∧ w = w' := by
  have hlow := digs_low (B := 65536) (by decide) N
  have hcut := cutz_digs (B := 65536) (by decide) N
  have hval : Hid (val 65536 (digs 65536 N) = N) := Lib.hid (val_digs (by decide) N)
  generalize digs 65536 N = xs at *
  obtain ⟨a, cap, rfl, hcap, hsa⟩ := hI.slice
  by_cases hne : xs = []
  · subst hne
    have hN : Hid (nbits N = 0) := Lib.hid (by rw [← hval.out]; rfl)
    clear hsa hI hcut
    go_enter Try.func26, Try.ntmps26
    go_wp2
    go_ret
    exact ⟨ret_int (by rw [hN.out]; rfl), rfl⟩
  · have hpos : 0 < xs.length := List.length_pos_iff.2 hne
    have ht := cutz_top hcut hne
    have hN : Hid (nbits N = 16 * (xs.length - 1) + nbits (lim xs (xs.length - 1))) := Lib.hid (by
      rw [← hval.out]
      exact nbits_top (p := 16) rfl hlow ht fun j hj => lim_ge (by omega))
    have htl := lim_lt hlow (by decide) (xs.length - 1)
    obtain ⟨off, rfl⟩ := hsa hpos
    have hc := hI.cell (j := xs.length - 1) (by omega)
    clear hI hcut ht hne hsa
    generalize lim xs (xs.length - 1) = T at *
    generalize hm : xs.length = m at *
    clear hm
    obtain ⟨q, rfl⟩ : ∃ q, m = q + 1 := ⟨m - 1, by omega⟩
    simp only [Nat.add_sub_cancel] at hc hN
    have h0 : (((q + 1 : Nat) : Int) == 0) = false := by simp; omega
    go_enter Try.func26, Try.ntmps26
    go_wp2
    go_loop [3, 4] (fun n x => ∃ c X : Nat, c ≤ 16 * q + 16 ∧ X < 65536 ∧ n = .int .i64 c ∧ x = .int .i64 X ∧ Hid (c + nbits X = nbits N) ∧ c + nbits X ≤ 16 * q + 16) (fun _ x => (intOf x).toNat)
    case atStart => exact ⟨16 * q, T, by omega, htl, by go_num, rfl, Lib.hid hN.out.symm, by have := nbits_le (n := T) (k := 16) htl; omega⟩
    case round =>
      obtain ⟨c, X, hc1, hX, rfl, rfl, hs, hs2⟩ := hrel
      by_cases hX0 : 0 < X
      · have hh := nbits_half (n := X) (by omega)
        have HH := Lib.hid hh
        have hle : c + 1 ≤ 16 * q + 16 := by omega
        clear hh
        go_wp2
        go_round
        case rel => exact ⟨c + 1, X / 2, by omega, by omega, by go_num, by go_num, Lib.hid (by rw [← hs.out, HH.out]; omega), by rw [HH.out] at hs2; omega⟩
        case measure => simp [intOf]; omega
      · obtain rfl : X = 0 := by omega
        go_wp2
        go_ret
        exact ⟨ret_int (by rw [← hs.out]; rfl), rfl⟩
end Go.Proofs.Ytppbifijgkcpjaa
