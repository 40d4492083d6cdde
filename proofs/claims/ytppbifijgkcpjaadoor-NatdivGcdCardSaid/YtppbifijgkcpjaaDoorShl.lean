/- natdiv.raise, natdiv.Shl: a number times a power of two. -/
import Derived.Test.YtppbifijgkcpjaaDoorRaise
import Derived.Test.YtppbifijgkcpjaaDoorNTrim
import Derived.Test.YtppbifijgkcpjaaDoorNNums
namespace Go.Proofs.YtppbifijgkcpjaaDoor
open Go.RowKit Go.Shelf

set_option maxHeartbeats 1000000 in
theorem raise_num {w : World} {va : Value} {M i m : Nat} (hA : Num w va M i) (hi : i ≤ 4398046511104) (hm : m ≤ 281474976710656) :
    Calls Tryd.prog 16 #[va, .int .i64 (m : Int)] w fun e W' => ∃ v, e = .returned v ∧ New w.heap.size W' v (digs 18446744073709551616 (M * 2 ^ m)) ∧ Below w.heap.size w W' := by
  obtain ⟨xs, ⟨b, hb, hI⟩, hlow, rfl, hl⟩ := hA
  have ht := ntrim_calls b va xs (by omega) hlow w hb hI
  have hcl := cutz_low hlow
  have hcv := val_cutz 18446744073709551616 xs
  have hcn := cutz_length xs
  obtain ⟨a, cap, rfl, _, _⟩ := hI.slice
  rw [← hcv]
  generalize cutz xs = ys at *
  clear hcv hI hlow
  by_cases h0 : ys = []
  · subst h0
    have hz : Hid (digs 18446744073709551616 (val 18446744073709551616 [] * 2 ^ m) = []) := Lib.hid (by simp [val, digs_zero])
    go_enter Tryd.func16, Tryd.ntmps16
    go_wp2_with fail
    refine ht.mono ?_
    rintro e w1 ⟨v1, rfl, hr1, hb1⟩
    obtain ⟨a1, c1, rfl, _, _⟩ := hr1.slice
    clear ht
    simp only [List.length_nil]
    go_wp2
    go_ret
    exact ⟨_, rfl, ⟨b, .inl ⟨⟨_, _, rfl⟩, hz.out⟩, Nat.lt_of_lt_of_le hb hb1.size, .inl rfl⟩, hb1⟩
  · have hpos : 0 < ys.length := List.length_pos_iff.2 h0
    have hne : ((ys.length : Int) == 0) = false := beq_eq_false_iff_ne.2 (by omega)
    clear h0
    go_enter Tryd.func16, Tryd.ntmps16
    go_wp2_with fail
    refine ht.mono ?_
    rintro e w1 ⟨v1, rfl, hr1, hb1⟩
    clear ht
    have hrw := raiseWide_calls b v1 ys m (by omega) hm hcl w1 (Nat.lt_of_lt_of_le hb hb1.size) hr1
    obtain ⟨a1, c1, rfl, _, _⟩ := hr1.slice
    clear hr1
    go_wp2_with fail
    refine hrw.mono ?_
    rintro e w2 ⟨S, s, rfl, hS, hS1, hsl, hslow, hsv, hb2⟩
    clear hrw
    have htr := ntrim_calls S (.slice (some ⟨S, 0, none⟩) s.length s.length) s (by omega) hslow w2 hS.lt (hS.rd _ (Nat.le_refl _))
    have hfin : Hid (cutz s = digs 18446744073709551616 (val 18446744073709551616 ys * 2 ^ m)) := Lib.hid (by rw [cutz_eq_digs (by decide) hslow, hsv])
    have hSl := hS.lt
    clear hsl hsv
    go_wp2_with fail
    refine htr.mono ?_
    rintro e w3 ⟨v3, rfl, hr3, hb3⟩
    rw [hfin.out] at hr3
    go_wp2
    go_ret
    exact ⟨_, rfl, ⟨S, hr3, Nat.lt_of_lt_of_le hSl hb3.size, .inr (Nat.le_trans hb1.size hS1)⟩, below_both (below_both hb1 hb2) hb3⟩

set_option maxHeartbeats 1000000 in
theorem shl_num {w : World} {va : Value} {M i m : Nat} (hA : Num w va M i) (hi : i ≤ 4398046511104) (hm : m ≤ 65536) :
    Calls Tryd.prog 10 #[va, .int .i64 (m : Int)] w fun e W' => ∃ v, e = .returned (.tuple #[v, .int .i64 0]) ∧ New w.heap.size W' v (digs 18446744073709551616 (M * 2 ^ m)) ∧ Below w.heap.size w W' := by
  have hr := raise_num hA hi (m := m) (by omega)
  obtain ⟨a, k, cap, rfl⟩ := hA.slice
  go_enter Tryd.func10, Tryd.ntmps10
  go_wp2_with fail
  refine hr.mono ?_
  rintro e w1 ⟨v, rfl, hn, hb⟩
  clear hr
  obtain ⟨a1, c1, rfl, _⟩ := hn.slice
  go_wp2
  go_ret2
  exact ⟨_, rfl, hn, hb⟩
end Go.Proofs.YtppbifijgkcpjaaDoor
